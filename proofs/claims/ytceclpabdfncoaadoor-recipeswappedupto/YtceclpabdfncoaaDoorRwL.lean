/- The laws' right: the inputs. -/
import Derived.Test.YtceclpabdfncoaaDoorRwJ
import Derived.Test.YtceclpabdfncoaaDoorRwK
namespace Go.Proofs.YtceclpabdfncoaaDoor.Re
open Go.RowKit
theorem ls_two (w : World) (a b : S) : Ls (w.alloc (.cells #[.string a, .string b] 9)) (.slice (some ⟨w.heap.size, 0, none⟩) 2 2) 1 (([a, b] : List S).map sR) := by
  refine ⟨some ⟨w.heap.size, 0, none⟩, 2, rfl, (fun q => by cases q), Nat.le_refl _, by unfold maxLen; omega, rs_s _, fun i d hd => ⟨w.heap.size, 0, rfl, by simp, ?_⟩⟩
  intro j u hu
  rw [cell_of_row _ _ _ _ _ _ (heap_alloc_new _ _)]
  have hi : i < 2 := by have := (List.getElem?_eq_some_iff.1 hd).1; simpa using this
  match i, hi, hd with
  | 0, _, hd =>
    obtain rfl : sR a = d := by simpa using hd
    match j, hu with
    | 0, hu => simpa [sR] using hu
    | j + 1, hu => simp [sR] at hu
  | 1, _, hd =>
    obtain rfl : sR b = d := by simpa using hd
    match j, hu with
    | 0, hu => simpa [sR] using hu
    | j + 1, hu => simp [sR] at hu
/-- The inputs so far. -/
structure Ip (W : World) (C : Array Value) (q : Nat) (o n s : Value) (us : List Value) (R : Rcp) (kv : Value) (B i : Nat) (wr : World) : Prop where
  rt : Rt W C q o n s (.slice none 0 0) (.slice none 0 0) us R wr
  ks : TL B 300 40 wr kv
  bn : Bn { R with n := [] }
  le : R.n.length ≤ i
  il : ∀ x ∈ R.n, x.2.length ≤ 10
  e0 : R.e = []
theorem Ip.below {W : World} {C : Array Value} {q : Nat} {o n s : Value} {us : List Value} {R : Rcp} {kv : Value} {B i : Nat} {wr w' : World} (h : Ip W C q o n s us R kv B i wr) (hb : Below wr.heap.size wr w') : Ip W C q o n s us R kv B i w' := ⟨h.rt.below hb, h.ks.below hb, h.bn, h.le, h.il, h.e0⟩
theorem Ip.add {W : World} {C : Array Value} {q : Nat} {o n s : Value} {us : List Value} {R : Rcp} {kv : Value} {B i : Nat} {wr : World} (h : Ip W C q o n s us R kv B i wr) (hi : i < 40) (x : S) {B' : Nat} {ua : Option Addr} {un uc : Nat} (hu : TL B' 300 10 wr (.slice ua un uc)) (hB : W.heap.size ≤ B') :
    ∃ a' n' c' V Z, (Builtin.append_ #[30, 30] 30 #[n, .slice (some ⟨wr.heap.size, 0, none⟩) 1 1]).run Tryd.prog (wr.alloc (.cells #[.string x, .slice ua un uc] 45)) = .ok (.slice a' n' c') V ∧ V.cell? ⟨q, 1, none⟩ = some n ∧ V.frozen? ⟨q, 1, none⟩ = false ∧ V.setCell ⟨q, 1, none⟩ (.slice a' n' c') = Z ∧ Hid (∃ us' R', Ip W C q o (.slice a' n' c') s us' R' kv B (i + 1) Z) := by
  obtain ⟨ol, hu1, hu2, -⟩ := hu
  obtain ⟨a', n', c', V, Z, r1, r2, r3, r4, r5, r6⟩ := h.rt.addI x ol (.slice ua un uc) (hu1.mono hB) (by have := h.le; omega)
  refine ⟨a', n', c', V, Z, r1, r2, r3, r4, _, _, r5, r6 _ _ _ _ h.ks, h.bn, by have := h.le; simp; omega, fun z hz => ?_, h.e0⟩
  rcases List.mem_append.1 hz with w1 | w1
  · exact h.il z w1
  · rw [List.mem_singleton.1 w1]; exact hu2
set_option maxRecDepth 100000 in
set_option maxHeartbeats 12800000 in
theorem right14 (W : World) (C : Array Value) (q : Nat) (o s : Value) (us0 : List Value) (R0 : Rcp) (tx : S) (sd : Nat) (hsd : sd < 256) (aa : Option Addr) (la ca : Nat) (asl : List S) (kk : Option Addr) (lk ck : Nat) (ks : List S) (hC : C[7]? = some (.string tx)) (hC8 : C[8]? = some (.int .u8 (sd : Int))) (hC6 : C[6]? = some (.slice kk lk ck)) (hC5 : C[5]? = some (.slice aa la ca)) (hk : Ls W (.slice kk lk ck) 1 (ks.map sR)) (hkl : ks.length = lk) (ha : Ls W (.slice aa la ca) 1 (asl.map sR)) (hal : asl.length = la) (B : Nat) (ia : Option Addr) (li ic : Nat) (X : World) (h : Ip W C q o (.slice none 0 0) s us0 R0 (.slice ia li ic) B 0 X) {v0 v4 v5 v7 v8 v9 v10 v11 v12 v13 v14 v15 v16 v17 v18 v19 v20 v21 v22 v23 v24 v25 v26 v27 v28 v29 v30 v31 v32 v33 v34 v35 v36 v37 v38 v39 v40 v41 v42 v43 v44 v45 v46 v47 v48 v49 v50 v51 v52 v53 v54 v55 v56 v57 v58 v59 v60 v61 v62 v63 v64 v65 v66 v67 v68 v69 v70 v71 v72 v73 v74 v75 v76 v77 v78 v79 v80 v81 v82 v83 v84 v85 v86 v87 v88 v89 v90 v91 v92 v93 v94 v95 v96 v97 v98 v99 v100 v101 v102 v103 v104 v105 v106 v107 v108 v109 v110 v111 v112 v113 v114 v115 v116 v117 v118 v119 v120 v121 v122 v123 v124 v125 v126 v127 v128 v129 v130 v131 v132 v133 v134 v135 v136 v137 v138 v139 v140 v141 v142 v143 v144 v145 v146 v147 v148 v149 v150 v151 v152 v153 v154 v155 v156 v157 v158 v159 v160 v161 v162 v163 v164 v165 v166 v167 v168 v169 v170 v171 v172 v173 v174 v175 v176 v177 v178 v179 v180 v181 v182 v183 v184 v185 v186 v187 v188 v189 v190 v191 v192 v193 v194 v195 v196 v197 v198 v199 v200 v201 v202 v203 v204 : Value} :
    Code.wp Tryd.prog (tlF Tryd.f5 14) (bodyPost Tryd.prog Tryd.f5 (RiP W)) ⟨#[v0, .pointer (some ⟨W.heap.size, 0, none⟩), .pointer (some ⟨W.heap.size + 1, 0, none⟩), .pointer (some ⟨q, 0, none⟩), v4, v5, .slice ia li ic, v7, v8, v9, v10, v11, v12, v13, v14, v15, v16, v17, v18, v19, v20, v21, v22, v23, v24, v25, v26, v27, v28, v29, v30, v31, v32, v33, v34, v35, v36, v37, v38, v39, v40, v41, v42, v43, v44, v45, v46, v47, v48, v49, v50, v51, v52, v53, v54, v55, v56, v57, v58, v59, v60, v61, v62, v63, v64, v65, v66, v67, v68, v69, v70, v71, v72, v73, v74, v75, v76, v77, v78, v79, v80, v81, v82, v83, v84, v85, v86, v87, v88, v89, v90, v91, v92, v93, v94, v95, v96, v97, v98, v99, v100, v101, v102, v103, v104, v105, v106, v107, v108, v109, v110, v111, v112, v113, v114, v115, v116, v117, v118, v119, v120, v121, v122, v123, v124, v125, v126, v127, v128, v129, v130, v131, v132, v133, v134, v135, v136, v137, v138, v139, v140, v141, v142, v143, v144, v145, v146, v147, v148, v149, v150, v151, v152, v153, v154, v155, v156, v157, v158, v159, v160, v161, v162, v163, v164, v165, v166, v167, v168, v169, v170, v171, v172, v173, v174, v175, v176, v177, v178, v179, v180, v181, v182, v183, v184, v185, v186, v187, v188, v189, v190, v191, v192, v193, v194, v195, v196, v197, v198, v199, v200, v201, v202, v203, v204], []⟩ X := by
  have HH : Hid (Ip W C q o (.slice none 0 0) s us0 R0 (.slice ia li ic) B 0 X ∧ C[7]? = some (.string tx) ∧ C[8]? = some (.int .u8 (sd : Int)) ∧ C[6]? = some (.slice kk lk ck) ∧ C[5]? = some (.slice aa la ca)) := ⟨h, hC, hC8, hC6, hC5⟩
  have HK : Hid (Ls W (.slice kk lk ck) 1 (ks.map sR) ∧ ks.length = lk ∧ Ls W (.slice aa la ca) 1 (asl.map sR) ∧ asl.length = la) := ⟨hk, hkl, ha, hal⟩
  have HN : Hid (li ≤ 40 ∧ sd < 256) := ⟨h.ks.le, hsd⟩
  clear h hC hC6 hC5 hC8 hk hkl ha hal hsd
  conv => arg 2; whnf
  refine wp_seq_k ?_
  intro K hK
  have HK2 : Hid (∀ q w, Code.wp Tryd.prog (tlF Tryd.f5 18) (bodyPost Tryd.prog Tryd.f5 (RiP W)) q w → K q w) := hK
  clear hK
  go_wp2_with fail
  go_loopw [8] (fun iv wr => ∃ (i : Nat), iv = .int .i64 (i : Int) ∧ Hid (∃ na nn nc us R, i ≤ li ∧ Ip W C q o (.slice na nn nc) s us R (.slice ia li ic) B i wr)) (fun iv _ => li + 1 - (intOf iv).toNat)
  case atStart => exact ⟨0, rfl, none, 0, 0, us0, R0, Nat.zero_le _, HH.out.1⟩
  case round =>
    obtain ⟨i, rfl, HI⟩ := hrel
    obtain ⟨na, nn, nc, us, R, hil, ip⟩ := HI.out
    by_cases hi : i < li
    · have hi1 : (i : Int) < (li : Int) := by omega
      have hi0 : (0 : Int) ≤ (i : Int) := by omega
      obtain ⟨gi, x, rfl, -, cx⟩ := ip.ks.get hi
      have bd : Below wr.heap.size wr wr.drew := ⟨rfl, rfl, rfl, Nat.le_refl _, fun _ _ => rfl⟩
      have c8 : wr.drew.cell? ⟨W.heap.size, 8, none⟩ = some (.int .u8 (sd : Int)) := (ip.below bd).rt.cb HH.out.2.2.1
      have q1 : wr.drew.cell? ⟨q, 1, none⟩ = some (.slice na nn nc) := (ip.below bd).rt.cr rfl
      have cxd : wr.drew.cell? ⟨gi, i, none⟩ = some (.string x) := cx _ bd
      have wi : IntKind.i64.wrap ((i : Int) + 1) = (i : Int) + 1 := by rw [IntKind.wrap_i64]; have := HN.out.1; omega
      obtain ⟨z, hz⟩ : ∃ z, i * sd = z := ⟨_, rfl⟩
      have zl : z ≤ 40 * 256 := by rw [← hz]; exact Nat.mul_le_mul (by have := HN.out.1; omega) (by have := HN.out.2; omega)
      have mz : (i : Int) * (sd : Int) = (z : Int) := by rw [← hz]; simp
      have ws : wrap64 (sd : Int) = (sd : Int) := by have := HN.out.2; unfold wrap64; omega
      have ws2 : IntKind.i64.wrap (sd : Int) = (sd : Int) := by have := HN.out.2; rw [IntKind.wrap_i64]; omega
      have wz : wrap64 (z : Int) = (z : Int) := by unfold wrap64; omega
      have wz2 : IntKind.i64.wrap (z : Int) = (z : Int) := by rw [IntKind.wrap_i64]; omega
      have CW : Hid (∀ w, Calls Tryd.prog 10 #[.int .i64 (z : Int)] w (TxP 3 w)) := fun w => word_any _ (by omega) (by omega) w
      have HA : Hid (∀ (Y : World) (t : S) (m : Nat), t.size ≤ 3 → Y = wr.drew.drewN m → Y.cell? ⟨q, 1, none⟩ = some (.slice na nn nc) ∧ Y.cell? ⟨gi, i, none⟩ = some (.string x) ∧ (∀ O, (Y.alloc O).cell? ⟨q, 1, none⟩ = some (.slice na nn nc)) ∧ (∀ O, (Y.alloc O).cell? ⟨gi, i, none⟩ = some (.string x)) ∧ ¬ (9223372036854775807 < 1 + t.size) ∧ Hid (Calls Tryd.prog 9 #[.slice (some ⟨Y.heap.size, 0, none⟩) 2 2] (Y.alloc (.cells #[.string ⟨#[111, 117, 116]⟩, .string (⟨#[120]⟩ ++ t)] 9)) fun e Y2 => ∃ ua un uc, e = .returned (.slice ua un uc) ∧ Hid (Y2.cell? ⟨q, 1, none⟩ = some (.slice na nn nc) ∧ Y2.cell? ⟨gi, i, none⟩ = some (.string x) ∧ (∀ O, (Y2.alloc O).cell? ⟨q, 1, none⟩ = some (.slice na nn nc)) ∧ ∃ a' n' c' V Z, Hid ((Builtin.append_ #[30, 30] 30 #[.slice na nn nc, .slice (some ⟨Y2.heap.size, 0, none⟩) 1 1]).run Tryd.prog (Y2.alloc (.cells #[.string x, .slice ua un uc] 45)) = .ok (.slice a' n' c') V) ∧ V.cell? ⟨q, 1, none⟩ = some (.slice na nn nc) ∧ V.frozen? ⟨q, 1, none⟩ = false ∧ V.setCell ⟨q, 1, none⟩ (.slice a' n' c') = Z ∧ Hid (∃ us' R', Ip W C q o (.slice a' n' c') s us' R' (.slice (some ⟨gi, 0, none⟩) li ic) B (i + 1) Z)))) := by
        intro Y t m ht hm
        have bY : Below wr.heap.size wr Y := by rw [hm]; exact bd.trans (bel_dn wr.drew m)
        have aY := ip.below bY
        have bO : ∀ O, Below Y.heap.size Y (Y.alloc O) := fun O => (Below.refl _ Y).alloc (Nat.le_refl _) O
        refine ⟨aY.rt.cr rfl, cx _ bY, fun O => (aY.below (bO O)).rt.cr rfl, fun O => cx _ (bY.trans ((bO O).mono bY.size)), by omega, ?_⟩
        refine (sortedL (Y.alloc (.cells #[.string ⟨#[111, 117, 116]⟩, .string (⟨#[120]⟩ ++ t)] 9)) _ [⟨#[111, 117, 116]⟩, ⟨#[120]⟩ ++ t] 300 10 (ls_two Y _ _) (by simp) (fun y hy => ?_) (by omega)).mono ?_
        · simp only [List.mem_cons, List.not_mem_nil, or_false] at hy
          rcases hy with rfl | rfl
          · decide
          · rw [ByteArray.size_append]; show 1 + t.size ≤ 300; omega
        · rintro e Y2 ⟨ua, un, uc, rfl, tl, b2⟩
          have b3 : Below Y.heap.size Y Y2 := (bO _).trans (b2.mono (by simp))
          have a2 := aY.below b3
          have bP : ∀ O, Below Y2.heap.size Y2 (Y2.alloc O) := fun O => (Below.refl _ Y2).alloc (Nat.le_refl _) O
          obtain ⟨a', n', c', V, Z, r1, r2, r3, r4, r5⟩ := a2.add (by have := HN.out.1; omega) x tl (by have := aY.rt.bel.size; simp; omega)
          exact ⟨ua, un, uc, rfl, a2.rt.cr rfl, cx _ (bY.trans (b3.mono bY.size)), fun O => (a2.below (bP O)).rt.cr rfl, a', n', c', V, Z, r1, r2, r3, r4, r5⟩
      have HX : Hid (i < li) := hi
      clear hi hil ip HI cx bd hz zl
      go_wp2_with fail
      go_region_law (first
        | (refine step_word rfl 86 rfl (.int .i64 (z : Int)) (by simp [Act.eval, Act.put]) ?_; refine Calls.mono (CW.out wr.drew) ?_; rintro en Y ⟨t, rfl, ht, m, hm⟩; obtain ⟨y1, y2, y3, y4, y5, HS⟩ := HA.out Y t m ht hm; clear ht hm; refine ⟨_, rfl, ?_⟩)
        | (refine step_sorted rfl 89 rfl (.slice (some ⟨Y.heap.size, 0, none⟩) 2 2) (by simp [Act.eval]) ?_; refine Calls.mono HS.out ?_; rintro en Y2 ⟨ua, un, uc, rfl, HF⟩; obtain ⟨f1, f2, f3, a', n', c', V, Z, HR, z1, z2, z3, HZ⟩ := HF.out; clear HF; refine ⟨_, rfl, ?_⟩)
        | (refine step_ap rfl (.tmp 77) (.tmp 92) 30 rfl rfl _ _ _ _ (by simp [Act.eval]) (by simp [Act.eval]) HR.out ?_))
      all_goals go_wp2_with fail
      all_goals first
        | exact ⟨⟨i + 1, by go_num, _, _, _, HZ.out.choose, HZ.out.choose_spec.choose, HX.out, HZ.out.choose_spec.choose_spec⟩, by have := HX.out; simp [intOf]; omega⟩
        | trace_state
    · have hi1 : ¬ ((i : Int) < (li : Int)) := by omega
      have HT : Hid (Rt W C q o (.slice na nn nc) s (.slice none 0 0) (.slice none 0 0) us R wr ∧ Bn R ∧ R.e = []) := ⟨ip.rt, ⟨ip.bn.o, by have := ip.le; have := HN.out; omega, ip.il, ip.bn.s, ip.bn.a, ip.bn.e, ip.bn.ol, ip.bn.al, ip.bn.el⟩, ip.e0⟩
      clear hi hil ip HI
      go_wp2_with fail
      exact HK2.out _ _ (right18 W C q o _ s us R tx aa la ca asl kk lk ck ks HH.out.2.1 HH.out.2.2.2.1 HH.out.2.2.2.2 HK.out.1 HK.out.2.1 HK.out.2.2.1 HK.out.2.2.2 wr HT.out.1 HT.out.2.1 HT.out.2.2)
end Go.Proofs.YtceclpabdfncoaaDoor.Re
