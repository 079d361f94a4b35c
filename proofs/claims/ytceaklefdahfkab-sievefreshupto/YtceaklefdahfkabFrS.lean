/- SieveFresh: FrS. -/
import Derived.Test.YtceaklefdahfkabFrR
import Derived.Deep.DeepCutAuto
import Derived.BigRegion
namespace Go.Proofs.Ytceaklefdahfkab
open Go.RowKit
attribute [local go_sem ↓] toApS toApT toApp toApB toSlB
set_option maxRecDepth 100000 in
set_option maxHeartbeats 6400000 in
theorem fr3 {ws : List ByteArray} {m : Nat} {Dx : List Nat} {u : Value} {od : Option Addr} {cd : Nat} (W X : World) (hp : Pt ws m) (hnd : (ws.map tl).Nodup) (hdb : Byt Dx) (hd2 : 2 ≤ Dx.length) (hdl : Dx.length ≤ 16777300) (hne : 0 < (hts (ws.map tl) m Dx).length) (hu : St u ws X) (hd : Si .u8 (.slice od Dx.length cd) Dx X) (hb : Below W.heap.size W X) {v0 v1 v2 v3 v4 v5 v6 v7 v8 v11 v12 v13 v14 v15 v16 v17 v18 v19 v20 v21 v22 v23 v24 v25 v26 v27 v28 v29 v30 v31 v32 v33 v34 v35 v36 v37 v38 v39 v40 v41 v42 v43 v44 v45 v46 v47 v48 v49 v50 v51 v52 v53 v54 v55 v56 v57 v58 v59 v60 v61 v62 v63 v64 v65 v66 v67 v68 v69 v70 v71 v72 v73 v74 v75 v76 v77 v78 v79 v80 v81 v82 v83 v84 v85 v86 v87 v88 v89 v90 v91 v92 v93 v94 v95 v96 v97 v98 v99 v100 v101 v102 v103 v104 v105 v106 v107 v108 v109 v110 v111 v112 v113 v114 v115 v116 v117 v118 v119 v120 v121 v122 v123 v124 v125 v126 v127 v128 v129 v130 v131 v132 v133 v134 v135 v136 v137 v138 v139 v140 v141 v142 v143 v144 v145 v146 v147 v148 v149 v150 v151 v152 v153 v154 v155 v156 v157 v158 v159 v160 v161 v162 v163 v164 v165 v166 v167 v168 v169 v170 v171 v172 v173 v174 v175 v176 v177 v178 v179 v180 v181 v182 v183 v184 v185 v186 v187 v188 v189 v190 v191 v192 v193 v194 v195 v196 v197 v198 v199 v200 v201 v202 v203 v204 v205 v206 v207 v208 v209 v210 v211 v212 v213 v214 v215 v216 v217 v218 v219 v220 v221 v222 v223 v224 v225 v226 v227 v228 v229 v230 v231 v232 v233 v234 v235 v236 v237 v238 v239 v240 v241 v242 v243 v244 v245 v246 v247 v248 v249 v250 v251 v252 v253 v254 v255 v256 v257 v258 v259 v260 v261 v262 v263 v264 v265 v266 v267 v268 v269 v270 v271 v272 v273 v274 v275 v276 v277 v278 v279 v280 v281 v282 v283 v284 v285 v286 v287 v288 v289 v290 v291 v292 v293 v294 v295 v296 v297 v298 v299 v300 v301 v302 v303 v304 v305 v306 v307 v308 v309 v310 v311 v312 v313 v314 v315 v316 v317 v318 v319 v320 v321 v322 v323 v324 v325 v326 v327 v328 v329 v330 v331 v332 v333 v334 v335 v336 v337 v338 v339 v340 v341 v342 v343 v344 v345 v346 v347 v348 v349 v350 v351 v352 v353 v354 v355 v356 v357 v358 v359 v360 v361 v362 v363 v364 v365 v366 v367 v368 v369 v370 v371 v372 v373 v374 v375 v376 v377 v378 v379 v380 v381 v382 v383 v384 v385 v386 v387 v388 v389 v390 v391 v392 v393 v394 : Value} :
    Code.wp Try.prog (tlG Try.f4 3) (bodyPost Try.prog Try.f4 (fun e w' => e = .returned (.bool true) ∧ Below W.heap.size W w')) ⟨#[v0, v1, v2, v3, v4, v5, v6, v7, v8, u, .slice od Dx.length cd, v11, v12, v13, v14, v15, v16, v17, v18, v19, v20, v21, v22, v23, v24, v25, v26, v27, v28, v29, v30, v31, v32, v33, v34, v35, v36, v37, v38, v39, v40, v41, v42, v43, v44, v45, v46, v47, v48, v49, v50, v51, v52, v53, v54, v55, v56, v57, v58, v59, v60, v61, v62, v63, v64, v65, v66, v67, v68, v69, v70, v71, v72, v73, v74, v75, v76, v77, v78, v79, v80, v81, v82, v83, v84, v85, v86, v87, v88, v89, v90, v91, v92, v93, v94, v95, v96, v97, v98, v99, v100, v101, v102, v103, v104, v105, v106, v107, v108, v109, v110, v111, v112, v113, v114, v115, v116, v117, v118, v119, v120, v121, v122, v123, v124, v125, v126, v127, v128, v129, v130, v131, v132, v133, v134, v135, v136, v137, v138, v139, v140, v141, v142, v143, v144, v145, v146, v147, v148, v149, v150, v151, v152, v153, v154, v155, v156, v157, v158, v159, v160, v161, v162, v163, v164, v165, v166, v167, v168, v169, v170, v171, v172, v173, v174, v175, v176, v177, v178, v179, v180, v181, v182, v183, v184, v185, v186, v187, v188, v189, v190, v191, v192, v193, v194, v195, v196, v197, v198, v199, v200, v201, v202, v203, v204, v205, v206, v207, v208, v209, v210, v211, v212, v213, v214, v215, v216, v217, v218, v219, v220, v221, v222, v223, v224, v225, v226, v227, v228, v229, v230, v231, v232, v233, v234, v235, v236, v237, v238, v239, v240, v241, v242, v243, v244, v245, v246, v247, v248, v249, v250, v251, v252, v253, v254, v255, v256, v257, v258, v259, v260, v261, v262, v263, v264, v265, v266, v267, v268, v269, v270, v271, v272, v273, v274, v275, v276, v277, v278, v279, v280, v281, v282, v283, v284, v285, v286, v287, v288, v289, v290, v291, v292, v293, v294, v295, v296, v297, v298, v299, v300, v301, v302, v303, v304, v305, v306, v307, v308, v309, v310, v311, v312, v313, v314, v315, v316, v317, v318, v319, v320, v321, v322, v323, v324, v325, v326, v327, v328, v329, v330, v331, v332, v333, v334, v335, v336, v337, v338, v339, v340, v341, v342, v343, v344, v345, v346, v347, v348, v349, v350, v351, v352, v353, v354, v355, v356, v357, v358, v359, v360, v361, v362, v363, v364, v365, v366, v367, v368, v369, v370, v371, v372, v373, v374, v375, v376, v377, v378, v379, v380, v381, v382, v383, v384, v385, v386, v387, v388, v389, v390, v391, v392, v393, v394], []⟩ X := by
  have HPT : Hid (Pt ws m) := hp
  have HND : Hid ((ws.map tl).Nodup) := hnd
  have HDB : Hid (Byt Dx) := hdb
  have HDL : Hid (2 ≤ Dx.length ∧ Dx.length ≤ 16777300) := ⟨hd2, hdl⟩
  have HNE : Hid (0 < (hts (ws.map tl) m Dx).length) := hne
  have HU3 : Hid (St u ws X) := hu
  have HSD : Hid (Si .u8 (.slice od Dx.length cd) Dx X) := hd
  have HW3 : Hid (Below W.heap.size W X) := hb
  have CN : Hid _ := new_f HPT.out HND.out _ X HU3.out
  clear hp hnd hdb hd2 hdl hne hu hd hb
  conv => arg 2; whnf
  go_wp2_with fail
  refine Calls.mono CN.out ?_
  rintro e w4 ⟨ns, g, gt, rfl, H4⟩
  clear CN
  have C5 : Hid _ := scan_f HPT.out H4.out.1 Dx HDB.out (by have := HDL.out; omega) _ (HSD.out.below H4.out.2)
  go_wp2_with fail
  refine Calls.mono C5.out ?_
  rintro e w5 ⟨wv, rfl, H5⟩
  clear C5
  have S5 : Hid (Sta ws m ns g gt Dx u (.slice od Dx.length cd) wv W w5) := by
    have b := H4.out.2.trans (H5.out.2.mono H4.out.2.size)
    exact ⟨⟨_, _, H4.out.1.below H5.out.2⟩, HU3.out.below b, HSD.out.below b, ow_hl H5.out.1, HW3.out.trans (b.mono HW3.out.size)⟩
  obtain ⟨ow, cw, hwv, -, -, -⟩ := H5.out.1.form
  obtain ⟨nA, hnA⟩ : ∃ n, n = (hts (ws.map tl) m Dx).length := ⟨_, rfl⟩
  rw [← hnA] at hwv
  subst hwv
  have hA0 : ¬ ((nA : Int) = 0) := by have := HNE.out; omega
  have hA1 : ¬ (nA = 0) := by have := HNE.out; omega
  obtain ⟨Bq, Kq, sv5⟩ := S5.out.sv
  have HOK : Hid (NewOk ws ns) := sv5.ok
  have C6 : Hid _ := scanner_any g gt w5 sv5.sv
  have TK5 : Hid (TabK w5.heap.size gt (ftT ((wdS ws ns).map tl) ns m) w5) := sv5.tk
  have SV5 : Hid (Sve g gt w5) := sv5.sv
  clear H4 H5 HU3 HSD HW3 HNE hnA sv5
  go_wp2_with fail
  refine Calls.mono C6.out ?_
  rintro e w6 ⟨rfl, hs6, hb6, hz6⟩
  clear C6
  have C7 : Hid _ := rewriter_ws HPT.out HOK.out g gt u w6 ((hb6.block g (Array.getElem?_eq_some_iff.1 SV5.out).1).trans SV5.out) (TK5.out.keep hb6.size (fun j hj _ => hb6.block j hj)).tab (S5.out.u.below hb6)
  have HSC : Hid (Scn w5.heap.size gt 0 0 0 w6 ∧ Below w5.heap.size w5 w6 ∧ w6.heap.size = w5.heap.size + 1) := ⟨hs6, hb6, hz6⟩
  obtain ⟨gs, hgs⟩ : ∃ gs, gs = w5.heap.size := ⟨_, rfl⟩
  have HG : Hid (gs = w5.heap.size) := hgs
  rw [← hgs]
  clear hgs hs6 hb6 hz6
  go_wp2_with fail
  refine Calls.mono C7.out ?_
  rintro e w7 ⟨gr, tv, rfl, HR7⟩
  clear C7
  obtain ⟨F7, cF⟩ : Fdd ws m ns gs gr gt tv (.slice od Dx.length cd) Dx w5 0 w7 ∧ Fdc w5 gs gr tv (.slice od Dx.length cd) := by
    obtain ⟨a1, a2, a3⟩ := HSC.out
    obtain ⟨b1, b2, b3, b4, b5, b6⟩ := HR7.out
    rw [HG.out]
    exact fdd_new HPT.out HOK.out TK5.out S5.out.d a1 a2 a3 b1 b2 b3 b4 b5 b6
  obtain ⟨bd, fd, rfl, hd7⟩ : ∃ b off, od = some ⟨b, off, none⟩ ∧ ∀ j, j < Dx.length → w7.cell? ⟨b, off + j, none⟩ = some (.int .u8 ((Dx.getD j 0 : Nat) : Int)) := by
    obtain ⟨o', c', q1, _, _, q2⟩ := F7.dv.form
    injection q1 with q1 _ _
    obtain ⟨b, off, q3, _, q4⟩ := q2 (by have := HDL.out; omega)
    exact ⟨b, off, q1.trans q3, q4⟩
  have cd0 : w7.cell? ⟨bd, fd, none⟩ = some (.int .u8 ((Dx.getD 0 0 : Nat) : Int)) := by have := hd7 0 (by have := HDL.out; omega); rwa [Nat.add_zero] at this
  obtain ⟨a, ea⟩ : ∃ a, a = Dx.getD 0 0 := ⟨_, rfl⟩
  have ha256 : a < 256 := by rw [ea]; exact HDB.out _ (getD_mem (by have := HDL.out; omega))
  rw [← ea] at cd0
  have hx := u8_xor_nat a 1 ha256 (by decide)
  obtain ⟨x, ex⟩ : ∃ x, x = a ^^^ 1 := ⟨_, rfl⟩
  have hx256 : x < 256 := by rw [ex]; exact xb_lt ha256 (by decide)
  rw [← ex] at hx
  have hx' : bits .xor .u8 (a : Int) 1 = (x : Int) := hx
  clear hx
  obtain ⟨o1, n1, c1, r11, s11⟩ := cut_lw F7.dv 1 (by have := HDL.out; omega)
  have s11d : Si .u8 (.slice o1 n1 c1) (Dx.drop 1) w7.drew := s11.below (Below.drewN' (Below.refl _ _) 1)
  obtain ⟨fv, w8, r12, of8, b8⟩ := run_apB1 w7.drew 23 x (.slice o1 n1 c1) (Dx.drop 1) (by rw [List.length_drop]; have := HDL.out; omega) (by rw [List.length_drop]; have := HDL.out; omega) s11d
  have b78 : Below w7.heap.size w7 w8 := (Below.drewN' (Below.refl _ w7) 1).trans b8
  have M8 : Hid (Mid ws m ns gs gr gt tv (.slice (some ⟨bd, fd, none⟩) Dx.length cd) Dx w5 w8.heap.size 0 [⟨5, 1, fv, (x :: Dx.drop 1).length, (ik .u8 (x :: Dx.drop 1)).toList, w7.drew.heap.size, w8.heap.size⟩] w8) := ⟨⟨0, Nat.le_refl _, F7.below b78⟩, (Alls.nil w8).add (.inl rfl) of8, Nat.le_refl _⟩
  have CM : Hid (MidC ws ns gs gr tv (.slice (some ⟨bd, fd, none⟩) Dx.length cd) w5 w8.heap.size) := by
    have F8 := F7.below b78
    obtain ⟨⟨c1, q1⟩, ⟨c2, q2⟩⟩ := F8.rows
    exact ⟨HOK.out, cF, (Array.getElem?_eq_some_iff.1 q1).1, (Array.getElem?_eq_some_iff.1 q2).1, fun k hk => by
      rcases F8.tv with ⟨q, _⟩ | ⟨b, off, cap, q, _, _, h4, _⟩
      · rw [q] at hk; cases hk
      · rw [q] at hk; cases hk; exact h4, F8.bl.size⟩
  have r12' : (apB 23 #[.slice (some ⟨w7.heap.size, 0, none⟩) 1 1, .slice o1 n1 c1]).run Try.prog (w7.alloc (.cells #[.int .u8 (x : Int)] 5)).drew = .ok fv w8 := r12
  have r11a : (slB (.slice (some ⟨bd, fd, none⟩) Dx.length cd) (some (.int .i64 1)) none none).run Try.prog w7.drew = .ok (.slice o1 n1 c1) w7.drew := r11 w7.drew
  have r11b : (slB (.slice (some ⟨bd, fd, none⟩) Dx.length cd) (some (.int .i64 1)) none none).run Try.prog (w7.alloc (.cells #[.int .u8 (x : Int)] 5)).drew = .ok (.slice o1 n1 c1) (w7.alloc (.cells #[.int .u8 (x : Int)] 5)).drew := r11 _
  have hd1n : 0 < Dx.length := by have := HDL.out; omega
  have HFB : Hid ((x :: Dx.drop 1).length = Dx.length ∧ Byt (x :: Dx.drop 1)) := ⟨by simp; have := HDL.out; omega, fun y hy => by
    rcases List.mem_cons.1 hy with h | h
    · omega
    · exact HDB.out y (List.mem_of_mem_drop h)⟩
  have hd1 : (0 : Int) < (Dx.length : Int) := by have := HDL.out; omega
  have HCT : Hid (Ctf ws m Dx) := ⟨HPT.out, HND.out, HDB.out, by have := HDL.out; omega, by have := HDL.out; omega⟩
  clear r11 r12 s11 s11d of8 b8 b78 F7 cF hd7 ea ha256 ex hx256 HR7 HSC HG TK5 SV5
  go_upto_region 11 with fail
  rename_i K hK
  have HK2 : Hid (∀ q w, Code.wp Try.prog (tlG Try.f4 12) (bodyPost Try.prog Try.f4 (fun e w' => e = .returned (.bool true) ∧ Below W.heap.size W w')) q w → K q w) := hK
  clear hK
  go_region
  exact HK2.out _ _ (fr12 W w8 w5 gs gr _ _ tv fv _ HCT.out (fun Z hZ => S5.out.below hZ) M8.out CM.out HFB.out.1 HFB.out.2)
end Go.Proofs.Ytceaklefdahfkab
