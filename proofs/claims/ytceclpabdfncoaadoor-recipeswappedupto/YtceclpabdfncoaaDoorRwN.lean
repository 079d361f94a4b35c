/- The laws' right: the sources. -/
import Derived.Test.YtceclpabdfncoaaDoorRwM
namespace Go.Proofs.YtceclpabdfncoaaDoor.Re
open Go.RowKit
section
attribute [local go_sem ↓] toApS
set_option maxRecDepth 100000 in
set_option maxHeartbeats 12800000 in
theorem right2 (W : World) (C : Array Value) (q : Nat) (o s : Value) (R : Rcp) (tx : S) (sd : Nat) (hsd : sd < 256) (aa : Option Addr) (la ca : Nat) (asl : List S) (kk : Option Addr) (lk ck : Nat) (ks : List S) (hC : C[7]? = some (.string tx)) (hC8 : C[8]? = some (.int .u8 (sd : Int))) (hC6 : C[6]? = some (.slice kk lk ck)) (hC5 : C[5]? = some (.slice aa la ca)) (hk : Ls W (.slice kk lk ck) 1 (ks.map sR)) (hkl : ks.length = lk) (ha : Ls W (.slice aa la ca) 1 (asl.map sR)) (hal : asl.length = la) (bv : Option Addr) (lb cb : Nat) (d : List Nat) (hC4 : C[3]? = some (.slice bv lb cb)) (hd : YtceclpabdfncoaaDoor.Byl (.slice bv lb cb) d W) (hdl : d.length = lb) (hdb : Byt d) (hx : Tx W) (ht : Sha.Tb W) (iv : Option Addr) (li ci : Nat) (di : List Nat) (hI : C[4]? = some (.slice iv li ci)) (hdi : YtceclpabdfncoaaDoor.Byl (.slice iv li ci) di W) (hdil : di.length = li) (hdib : Byt di) (X : World) (h : Rt W C q o (.slice none 0 0) s (.slice none 0 0) (.slice none 0 0) [] R X) (hb : Bn R) (he : R.e = []) (hn : R.n = []) {v0 v4 v5 v6 v7 v8 v9 v10 v11 v12 v13 v14 v15 v16 v17 v18 v19 v20 v21 v22 v23 v24 v25 v26 v27 v28 v29 v30 v31 v32 v33 v34 v35 v36 v37 v38 v39 v40 v41 v42 v43 v44 v45 v46 v47 v48 v49 v50 v51 v52 v53 v54 v55 v56 v57 v58 v59 v60 v61 v62 v63 v64 v65 v66 v67 v68 v69 v70 v71 v72 v73 v74 v75 v76 v77 v78 v79 v80 v81 v82 v83 v84 v85 v86 v87 v88 v89 v90 v91 v92 v93 v94 v95 v96 v97 v98 v99 v100 v101 v102 v103 v104 v105 v106 v107 v108 v109 v110 v111 v112 v113 v114 v115 v116 v117 v118 v119 v120 v121 v122 v123 v124 v125 v126 v127 v128 v129 v130 v131 v132 v133 v134 v135 v136 v137 v138 v139 v140 v141 v142 v143 v144 v145 v146 v147 v148 v149 v150 v151 v152 v153 v154 v155 v156 v157 v158 v159 v160 v161 v162 v163 v164 v165 v166 v167 v168 v169 v170 v171 v172 v173 v174 v175 v176 v177 v178 v179 v180 v181 v182 v183 v184 v185 v186 v187 v188 v189 v190 v191 v192 v193 v194 v195 v196 v197 v198 v199 v200 v201 v202 v203 v204 : Value} :
    Code.wp Tryd.prog (tlF Tryd.f5 2) (bodyPost Tryd.prog Tryd.f5 (RiP W)) ⟨#[v0, .pointer (some ⟨W.heap.size, 0, none⟩), .pointer (some ⟨W.heap.size + 1, 0, none⟩), .pointer (some ⟨q, 0, none⟩), v4, v5, v6, v7, v8, v9, v10, v11, v12, v13, v14, v15, v16, v17, v18, v19, v20, v21, v22, v23, v24, v25, v26, v27, v28, v29, v30, v31, v32, v33, v34, v35, v36, v37, v38, v39, v40, v41, v42, v43, v44, v45, v46, v47, v48, v49, v50, v51, v52, v53, v54, v55, v56, v57, v58, v59, v60, v61, v62, v63, v64, v65, v66, v67, v68, v69, v70, v71, v72, v73, v74, v75, v76, v77, v78, v79, v80, v81, v82, v83, v84, v85, v86, v87, v88, v89, v90, v91, v92, v93, v94, v95, v96, v97, v98, v99, v100, v101, v102, v103, v104, v105, v106, v107, v108, v109, v110, v111, v112, v113, v114, v115, v116, v117, v118, v119, v120, v121, v122, v123, v124, v125, v126, v127, v128, v129, v130, v131, v132, v133, v134, v135, v136, v137, v138, v139, v140, v141, v142, v143, v144, v145, v146, v147, v148, v149, v150, v151, v152, v153, v154, v155, v156, v157, v158, v159, v160, v161, v162, v163, v164, v165, v166, v167, v168, v169, v170, v171, v172, v173, v174, v175, v176, v177, v178, v179, v180, v181, v182, v183, v184, v185, v186, v187, v188, v189, v190, v191, v192, v193, v194, v195, v196, v197, v198, v199, v200, v201, v202, v203, v204], []⟩ X := by
  have HG : Hid (sd < 256 ∧ C[7]? = some (.string tx) ∧ C[8]? = some (.int .u8 (sd : Int)) ∧ C[6]? = some (.slice kk lk ck) ∧ C[5]? = some (.slice aa la ca) ∧ Ls W (.slice kk lk ck) 1 (ks.map sR) ∧ ks.length = lk ∧ Ls W (.slice aa la ca) 1 (asl.map sR) ∧ asl.length = la) := ⟨hsd, hC, hC8, hC6, hC5, hk, hkl, ha, hal⟩
  clear hsd hC hC8 hC6 hC5 hk hkl ha hal
  have HH : Hid (Rt W C q o (.slice none 0 0) s (.slice none 0 0) (.slice none 0 0) [] R X ∧ Bn R ∧ R.e = [] ∧ R.n = [] ∧ C[3]? = some (.slice bv lb cb) ∧ YtceclpabdfncoaaDoor.Byl (.slice bv lb cb) d W ∧ d.length = lb ∧ Byt d ∧ Tx W ∧ Sha.Tb W) := ⟨h, hb, he, hn, hC4, hd, hdl, hdb, hx, ht⟩
  have HE2 : Hid (C[4]? = some (.slice iv li ci) ∧ YtceclpabdfncoaaDoor.Byl (.slice iv li ci) di W ∧ di.length = li ∧ Byt di) := ⟨hI, hdi, hdil, hdib⟩
  clear hI hdi hdil hdib
  clear h hb he hn hC4 hd hdl hdb hx ht
  conv => arg 2; whnf
  go_wp2_with fail
  go_loopw [4, 5] (fun kv iv wr => ∃ (a' : Option Addr) (n' c' i : Nat), kv = .slice a' n' c' ∧ iv = .int .i64 (i : Int) ∧ Hid (i ≤ 40 ∧ i ≤ lb ∧ Below X.heap.size X wr ∧ TL X.heap.size 300 i wr (.slice a' n' c'))) (fun _ iv _ => lb + 1 - (intOf iv).toNat)
  case atStart => exact ⟨none, 0, 0, 0, rfl, rfl, Nat.zero_le _, Nat.zero_le _, Below.refl _ _, TL.nil _ _ _ _⟩
  case round =>
    obtain ⟨a1, n1, c1', i, rfl, rfl, HI⟩ := hrel
    have rt := HH.out.1.below HI.out.2.2.1
    have c4 : wr.cell? ⟨W.heap.size, 3, none⟩ = some (.slice bv lb cb) := rt.cb HH.out.2.2.2.2.1
    by_cases hi : i < lb ∧ i < 40
    · have hi1 : (i : Int) < (lb : Int) := by omega
      have hi40 : (i : Int) < 40 := by omega
      have hi0 : (0 : Int) ≤ (i : Int) := by omega
      obtain ⟨bb, hbb⟩ : ∃ b, d.getD i 0 = b := ⟨_, rfl⟩
      have hlt : bb < 256 := by
        rw [← hbb]
        have hl := HH.out.2.2.2.2.2.2.1
        rw [List.getD_eq_getElem?_getD, List.getElem?_eq_getElem (by omega)]
        exact HH.out.2.2.2.2.2.2.2.1 _ (List.getElem_mem _)
      obtain ⟨o1, c1'', e1, -, -, hf⟩ := (HH.out.2.2.2.2.2.1.below rt.bel).form
      obtain ⟨bg, bo, hbo, -, hcell⟩ := hf (by have := HH.out.2.2.2.2.2.2.1; omega)
      have e2 : bv = some ⟨bg, bo, none⟩ := by injection e1 with e3; rw [e3, hbo]
      subst e2
      have cx : wr.cell? ⟨bg, bo + i, none⟩ = some (.int .u8 (bb : Int)) := by rw [hcell i (by have := HH.out.2.2.2.2.2.2.1; omega), hbb]
      have wi : IntKind.i64.wrap ((i : Int) + 1) = (i : Int) + 1 := by rw [IntKind.wrap_i64]; omega
      have ws : wrap64 (bb : Int) = (bb : Int) := by unfold wrap64; omega
      have ws2 : IntKind.i64.wrap (bb : Int) = (bb : Int) := by rw [IntKind.wrap_i64]; omega
      have wt : wrap64 (300 + (bb : Int)) = 300 + (bb : Int) := by unfold wrap64; omega
      have wt2 : IntKind.i64.wrap (300 + (bb : Int)) = 300 + (bb : Int) := by rw [IntKind.wrap_i64]; omega
      have CC : Hid (Calls Tryd.prog 8 #[.int .i64 (((bb : Nat) : Int)), .string ⟨#[]⟩] wr (TxM 300 wr)) := marked_any _ (by omega) (by omega) _ (by decide) wr (HH.out.2.2.2.2.2.2.2.2.1.below rt.bel HH.out.2.2.2.2.2.2.2.2.1.sz) (HH.out.2.2.2.2.2.2.2.2.2.below rt.bel HH.out.2.2.2.2.2.2.2.2.2.sz)
      have HX : Hid (i < lb ∧ i < 40) := hi
      clear hi rt hbb hlt e1 hf hbo hcell
      go_wp2_with fail
      refine CC.out.mono ?_
      rintro e1 W1 ⟨t, rfl, ht, b1⟩
      obtain ⟨a2, n2, c2, w2, r2, t2, f2⟩ := (HI.out.2.2.2.below b1).add (by have := HI.out.2.2.1.size; have := b1.size; omega) (by have := HX.out; omega) t ht
      have HE : Hid (i + 1 ≤ 40 ∧ i + 1 ≤ lb ∧ Below X.heap.size X w2 ∧ TL X.heap.size 300 (i + 1) w2 (.slice a2 n2 c2)) := ⟨by have := HX.out; omega, by have := HX.out; omega, f2 X (HI.out.2.2.1.trans (b1.mono HI.out.2.2.1.size)) (Nat.le_refl _), t2⟩
      clear b1 t2 f2 ht
      go_wp2_with fail
      exact ⟨⟨_, _, _, i + 1, rfl, by go_num, HE.out⟩, by have := HX.out; simp [intOf]; omega⟩
    · have HT : Hid (Below X.heap.size X wr ∧ TL X.heap.size 300 40 wr (.slice a1 n1 c1')) := ⟨HI.out.2.2.1, HI.out.2.2.2.mono (Nat.le_refl _) (Nat.le_refl _) HI.out.1⟩
      have CS : Hid (Calls Tryd.prog 9 #[.slice a1 n1 c1'] wr fun e w' => ∃ a n c, e = .returned (.slice a n c) ∧ Hid (TL wr.heap.size 300 40 w' (.slice a n c) ∧ Below wr.heap.size wr w')) := (sortedT_any wr _ X.heap.size 300 40 HT.out.2 (by omega)).mono fun e w' ⟨a, n, c, q, r⟩ => ⟨a, n, c, q, r⟩
      clear HI rt
      by_cases hi1 : (i : Int) < (lb : Int)
      · have hi40 : ¬ ((i : Int) < 40) := by omega
        clear hi
        go_upto_region 7 with fail
        rename_i K2 h2
        have HK2 : Hid (∀ q w, Code.wp Tryd.prog (tlF Tryd.f5 8) (bodyPost Tryd.prog Tryd.f5 (RiP W)) q w → K2 q w) := h2
        clear h2
        go_wp2_with fail
        refine CS.out.mono ?_
        rintro e1 W3 ⟨a3, n3, c3, rfl, HR⟩
        obtain ⟨L, hL, hLl, -⟩ := HR.out.1
        have r3 := (HH.out.1.below HT.out.1).below HR.out.2
        obtain ⟨g1, g2, g3⟩ := r3.setS (.slice a3 n3 c3) L (hL.mono (by have := HH.out.1.bel.size; have := HT.out.1.size; omega))
        have HF : Hid (Rt W C q o (.slice none 0 0) (.slice a3 n3 c3) (.slice none 0 0) (.slice none 0 0) [] { R with s := L } (W3.setCell ⟨q, 2, none⟩ (.slice a3 n3 c3)) ∧ Bn { R with s := L }) := ⟨g3, ⟨HH.out.2.1.o, HH.out.2.1.n, HH.out.2.1.i, hLl, HH.out.2.1.a, HH.out.2.1.e, HH.out.2.1.ol, HH.out.2.1.al, HH.out.2.1.el⟩⟩
        clear r3 g3 hL hLl
        go_wp2_with fail
        exact HK2.out _ _ (right8 W C q o _ { R with s := L } tx sd HG.out.1 aa la ca asl kk lk ck ks HG.out.2.1 HG.out.2.2.1 HG.out.2.2.2.1 HG.out.2.2.2.2.1 HG.out.2.2.2.2.2.1 HG.out.2.2.2.2.2.2.1 HG.out.2.2.2.2.2.2.2.1 HG.out.2.2.2.2.2.2.2.2 iv li ci di HE2.out.1 HE2.out.2.1 HE2.out.2.2.1 HE2.out.2.2.2 HH.out.2.2.2.2.2.2.2.2.1 HH.out.2.2.2.2.2.2.2.2.2 _ HF.out.1 HF.out.2 HH.out.2.2.1 HH.out.2.2.2.1)
      · clear hi
        go_upto_region 7 with fail
        rename_i K2 h2
        have HK2 : Hid (∀ q w, Code.wp Tryd.prog (tlF Tryd.f5 8) (bodyPost Tryd.prog Tryd.f5 (RiP W)) q w → K2 q w) := h2
        clear h2
        go_wp2_with fail
        refine CS.out.mono ?_
        rintro e1 W3 ⟨a3, n3, c3, rfl, HR⟩
        obtain ⟨L, hL, hLl, -⟩ := HR.out.1
        have r3 := (HH.out.1.below HT.out.1).below HR.out.2
        obtain ⟨g1, g2, g3⟩ := r3.setS (.slice a3 n3 c3) L (hL.mono (by have := HH.out.1.bel.size; have := HT.out.1.size; omega))
        have HF : Hid (Rt W C q o (.slice none 0 0) (.slice a3 n3 c3) (.slice none 0 0) (.slice none 0 0) [] { R with s := L } (W3.setCell ⟨q, 2, none⟩ (.slice a3 n3 c3)) ∧ Bn { R with s := L }) := ⟨g3, ⟨HH.out.2.1.o, HH.out.2.1.n, HH.out.2.1.i, hLl, HH.out.2.1.a, HH.out.2.1.e, HH.out.2.1.ol, HH.out.2.1.al, HH.out.2.1.el⟩⟩
        clear r3 g3 hL hLl
        go_wp2_with fail
        exact HK2.out _ _ (right8 W C q o _ { R with s := L } tx sd HG.out.1 aa la ca asl kk lk ck ks HG.out.2.1 HG.out.2.2.1 HG.out.2.2.2.1 HG.out.2.2.2.2.1 HG.out.2.2.2.2.2.1 HG.out.2.2.2.2.2.2.1 HG.out.2.2.2.2.2.2.2.1 HG.out.2.2.2.2.2.2.2.2 iv li ci di HE2.out.1 HE2.out.2.1 HE2.out.2.2.1 HE2.out.2.2.2 HH.out.2.2.2.2.2.2.2.2.1 HH.out.2.2.2.2.2.2.2.2.2 _ HF.out.1 HF.out.2 HH.out.2.2.1 HH.out.2.2.2.1)
end
end Go.Proofs.YtceclpabdfncoaaDoor.Re
