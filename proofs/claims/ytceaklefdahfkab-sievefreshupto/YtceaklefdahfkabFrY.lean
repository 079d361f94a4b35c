/- Several texts in one: FrH, FrI, FrJ, FrK. -/
import Derived.Test.YtceaklefdahfkabFrG
import Derived.Deep.Cut
import Derived.Laws.StructEq
/- SieveFresh: arrays of lists, and what stays. -/
namespace Go.Proofs.Ytceaklefdahfkab
open Go.RowKit
def headRf : Code → Option Nat
  | .region id _ _ => some id
  | .seq a _ => headRf a
  | .scope c => headRf c
  | .block _ c => headRf c
  | .loop c => headRf c
  | _ => none
def fromRf (n : Nat) : Code → Option (Bool × Code)
  | .seq a b => if headRf a = some n then some (false, .seq a b) else match fromRf n a with
    | some (false, c) => some (false, .seq c b)
    | some (true, c) => some (true, c)
    | none => fromRf n b
  | .scope c => fromRf n c
  | .block _ c => (fromRf n c).map fun p => (true, p.2)
  | .loop c => (fromRf n c).map fun p => (true, p.2)
  | .cond _ a b => match fromRf n a with
    | some p => some (true, p.2)
    | none => (fromRf n b).map fun p => (true, p.2)
  | _ => none
noncomputable def tlG (f : Func) (k : Nat) : Code := (((f.body.bind (fromRf k)).map (·.2)).getD .skip)
/-- An array of values of one cell each. -/
def Arr (b : Nat) (e : TypeId) (N : Nat) (f : Nat → Value) (w : World) : Prop := ∃ cur, w.heap[b]? = some (.cells cur e (0, 0)) ∧ ∀ i, i < N → cur[i]? = some (f i)
variable {b N B : Nat} {e : TypeId} {f : Nat → Value} {w w' : World}
theorem Arr.keep (h : Arr b e N f w) (hk : w'.heap[b]? = w.heap[b]?) : Arr b e N f w' := by
  obtain ⟨cur, h1, h2⟩ := h
  exact ⟨cur, hk.trans h1, h2⟩
theorem Arr.lt (h : Arr b e N f w) : b < w.heap.size := by
  obtain ⟨cur, h1, _⟩ := h
  exact (Array.getElem?_eq_some_iff.1 h1).1
theorem Arr.cell (h : Arr b e N f w) (i : Nat) (hi : i < N) : w.cell? ⟨b, i, none⟩ = some (f i) := by
  obtain ⟨cur, h1, h2⟩ := h
  exact (cell_of_row w b i _ _ _ h1).trans (h2 i hi)
theorem Arr.frozen (h : Arr b e N f w) (i : Nat) : w.frozen? ⟨b, i, none⟩ = false := by
  obtain ⟨cur, h1, h2⟩ := h
  exact frozen_of_row w b i _ _ h1
theorem Arr.set (h : Arr b e N f w) (i : Nat) (v : Value) : Arr b e N (updF f i v) (w.setCell ⟨b, i, none⟩ v) := by
  obtain ⟨cur, h1, h2⟩ := h
  refine ⟨_, heap_setCell_same w _ _ _ _ _ h1, fun k hk => ?_⟩
  have hs := h2 k hk
  have hz : k < cur.size := (Array.getElem?_eq_some_iff.1 hs).1
  by_cases hki : k = i
  · subst hki
    rw [updF_same]
    simp [hz]
  · rw [updF_other _ _ _ _ hki, Array.getElem?_setIfInBounds_ne (by omega)]
    exact hs
/-- A block of another kind. -/
theorem Arr.ne (h : Arr b e N f w) {e' : TypeId} (he : e' ≠ e) : ∀ cur, w.heap[b]? ≠ some (.cells cur e' (0, 0)) := fun cur hc => by
  obtain ⟨cur', h1, _⟩ := h
  rw [h1] at hc
  injection hc with hc
  injection hc with _ hc
  exact he hc.symm
theorem Arr.setO (h : Arr b e N f w) {g : Nat} {cur : Array Value} {e' : TypeId} (hg : w.heap[g]? = some (.cells cur e' (0, 0))) (he : e' ≠ e) (j : Nat) (v : Value) : Arr b e N f (w.setCell ⟨g, j, none⟩ v) :=
  h.keep (heap_setCell_other w _ _ _ (fun q => by
    have q : b = g := q
    subst q
    exact h.ne he cur hg))
/-- What stays: the sieve, the words, the bytes, the hits that are wanted. -/
structure Sta (ws : List ByteArray) (m : Nat) (ns : List Nat) (g gt : Nat) (D : List Nat) (u dv wv : Value) (w0 w : World) : Prop where
  sv : ∃ B K, SvL ws m ns g gt B K w
  u : St u ws w
  d : Si .u8 dv D w
  wt : Hl wv (hts (ws.map tl) m D) w
  bl : Below w0.heap.size w0 w
theorem Sta.below {ws : List ByteArray} {m : Nat} {ns : List Nat} {g gt : Nat} {D : List Nat} {u dv wv : Value} {w0 : World} (h : Sta ws m ns g gt D u dv wv w0 w) (hb : Below w.heap.size w w') : Sta ws m ns g gt D u dv wv w0 w' := by
  obtain ⟨B, K, hs⟩ := h.sv
  exact ⟨⟨B, K, hs.below hb⟩, h.u.below hb, h.d.below hb, h.wt.keep hb.size (fun j hj => hb.block j hj), h.bl.trans (hb.mono h.bl.size)⟩
/-- What the walk asks of the numbers, once and for all. -/
structure Ctf (ws : List ByteArray) (m : Nat) (D : List Nat) : Prop where
  hp : Pt ws m
  nd : (ws.map tl).Nodup
  db : Byt D
  d0 : 0 < D.length
  dl : D.length ≤ 536870912
end Go.Proofs.Ytceaklefdahfkab

/- SieveFresh: FrI. -/
namespace Go.Proofs.Ytceaklefdahfkab
open Go.RowKit
set_option maxRecDepth 100000 in
set_option maxHeartbeats 6400000 in
theorem fr70 {ws : List ByteArray} {m : Nat} {ns : List Nat} {g gt : Nat} {D : List Nat} {u dv wv : Value} (W X : World)  (C : Ctf ws m D) (hS : Sta ws m ns g gt D u dv wv W X) {v0 v1 v2 v3 v4 v5 v6 v7 v8 v12 v14 v15 v16 v17 v18 v19 v20 v21 v22 v23 v24 v25 v26 v27 v28 v29 v30 v31 v32 v33 v34 v35 v36 v37 v38 v39 v40 v41 v42 v43 v44 v45 v46 v47 v48 v49 v50 v51 v52 v53 v54 v55 v56 v57 v58 v59 v60 v61 v62 v63 v64 v65 v66 v67 v68 v69 v70 v71 v72 v73 v74 v75 v76 v77 v78 v79 v80 v81 v82 v83 v84 v85 v86 v87 v88 v89 v90 v91 v92 v93 v94 v95 v96 v97 v98 v99 v100 v101 v102 v103 v104 v105 v106 v107 v108 v109 v110 v111 v112 v113 v114 v115 v116 v117 v118 v119 v120 v121 v122 v123 v124 v125 v126 v127 v128 v129 v130 v131 v132 v133 v134 v135 v136 v137 v138 v139 v140 v141 v142 v143 v144 v145 v146 v147 v148 v149 v150 v151 v152 v153 v154 v155 v156 v157 v158 v159 v160 v161 v162 v163 v164 v165 v166 v167 v168 v169 v170 v171 v172 v173 v174 v175 v176 v177 v178 v179 v180 v181 v182 v183 v184 v185 v186 v187 v188 v189 v190 v191 v192 v193 v194 v195 v196 v197 v198 v199 v200 v201 v202 v203 v204 v205 v206 v207 v208 v209 v210 v211 v212 v213 v214 v215 v216 v217 v218 v219 v220 v221 v222 v223 v224 v225 v226 v227 v228 v229 v230 v231 v232 v233 v234 v235 v236 v237 v238 v239 v240 v241 v242 v243 v244 v245 v246 v247 v248 v249 v250 v251 v252 v253 v254 v255 v256 v257 v258 v259 v260 v261 v262 v263 v264 v265 v266 v267 v268 v269 v270 v271 v272 v273 v274 v275 v276 v277 v278 v279 v280 v281 v282 v283 v284 v285 v286 v287 v288 v289 v290 v291 v292 v293 v294 v295 v296 v297 v298 v299 v300 v301 v302 v303 v304 v305 v306 v307 v308 v309 v310 v311 v312 v313 v314 v315 v316 v317 v318 v319 v320 v321 v322 v323 v324 v325 v326 v327 v328 v329 v330 v331 v332 v333 v334 v335 v336 v337 v338 v339 v340 v341 v342 v343 v344 v345 v346 v347 v348 v349 v350 v351 v352 v353 v354 v355 v356 v357 v358 v359 v360 v361 v362 v363 v364 v365 v366 v367 v368 v369 v370 v371 v372 v373 v374 v375 v376 v377 v378 v379 v380 v381 v382 v383 v384 v385 v386 v387 v388 v389 v390 v391 v392 v393 v394 : Value} :
    Code.wp Try.prog (tlG Try.f4 70) (bodyPost Try.prog Try.f4 (fun e w' => e = .returned (.bool true) ∧ Below W.heap.size W w')) ⟨#[v0, v1, v2, v3, v4, v5, v6, v7, v8, u, dv, .pointer (some ⟨g, 0, none⟩), v12, wv, v14, v15, v16, v17, v18, v19, v20, v21, v22, v23, v24, v25, v26, v27, v28, v29, v30, v31, v32, v33, v34, v35, v36, v37, v38, v39, v40, v41, v42, v43, v44, v45, v46, v47, v48, v49, v50, v51, v52, v53, v54, v55, v56, v57, v58, v59, v60, v61, v62, v63, v64, v65, v66, v67, v68, v69, v70, v71, v72, v73, v74, v75, v76, v77, v78, v79, v80, v81, v82, v83, v84, v85, v86, v87, v88, v89, v90, v91, v92, v93, v94, v95, v96, v97, v98, v99, v100, v101, v102, v103, v104, v105, v106, v107, v108, v109, v110, v111, v112, v113, v114, v115, v116, v117, v118, v119, v120, v121, v122, v123, v124, v125, v126, v127, v128, v129, v130, v131, v132, v133, v134, v135, v136, v137, v138, v139, v140, v141, v142, v143, v144, v145, v146, v147, v148, v149, v150, v151, v152, v153, v154, v155, v156, v157, v158, v159, v160, v161, v162, v163, v164, v165, v166, v167, v168, v169, v170, v171, v172, v173, v174, v175, v176, v177, v178, v179, v180, v181, v182, v183, v184, v185, v186, v187, v188, v189, v190, v191, v192, v193, v194, v195, v196, v197, v198, v199, v200, v201, v202, v203, v204, v205, v206, v207, v208, v209, v210, v211, v212, v213, v214, v215, v216, v217, v218, v219, v220, v221, v222, v223, v224, v225, v226, v227, v228, v229, v230, v231, v232, v233, v234, v235, v236, v237, v238, v239, v240, v241, v242, v243, v244, v245, v246, v247, v248, v249, v250, v251, v252, v253, v254, v255, v256, v257, v258, v259, v260, v261, v262, v263, v264, v265, v266, v267, v268, v269, v270, v271, v272, v273, v274, v275, v276, v277, v278, v279, v280, v281, v282, v283, v284, v285, v286, v287, v288, v289, v290, v291, v292, v293, v294, v295, v296, v297, v298, v299, v300, v301, v302, v303, v304, v305, v306, v307, v308, v309, v310, v311, v312, v313, v314, v315, v316, v317, v318, v319, v320, v321, v322, v323, v324, v325, v326, v327, v328, v329, v330, v331, v332, v333, v334, v335, v336, v337, v338, v339, v340, v341, v342, v343, v344, v345, v346, v347, v348, v349, v350, v351, v352, v353, v354, v355, v356, v357, v358, v359, v360, v361, v362, v363, v364, v365, v366, v367, v368, v369, v370, v371, v372, v373, v374, v375, v376, v377, v378, v379, v380, v381, v382, v383, v384, v385, v386, v387, v388, v389, v390, v391, v392, v393, v394], []⟩ X := by
  obtain ⟨Bs, Ks, s0⟩ := hS.sv
  have C1 : Hid _ := scan_f C.hp s0 D C.db (by have := C.dl; omega) dv hS.d
  have HS : Hid _ := hS
  have HC : Hid _ := C
  clear s0 hS C
  conv => arg 2; whnf
  go_wp2_with fail
  refine Calls.mono C1.out ?_
  rintro e w1 ⟨c1, rfl, H1⟩
  clear C1
  have S1 : Hid _ := HS.out.below H1.out.2
  have s2 := same_gen _ _ c1 wv w1 (ow_hl H1.out.1) S1.out.wt
  simp only [decide_true] at s2
  have C2 : Hid _ := s2
  clear s2 H1 HS
  go_wp2_with fail
  refine Calls.mono C2.out ?_
  rintro e w2 ⟨rfl, b2⟩
  have S2 : Hid _ := S1.out.below b2
  have C3 : Hid _ := anew_any HC.out.hp HC.out.nd u dv D HC.out.db HC.out.d0 HC.out.dl w2 S2.out.u S2.out.d
  clear C2 b2 S1
  go_wp2_with fail
  refine Calls.mono C3.out ?_
  rintro e w3 ⟨rfl, b3⟩
  have S3 : Hid _ := S2.out.below b3
  obtain ⟨Bt, Kt, s3⟩ := S3.out.sv
  have C4 : Hid _ := fed_any HC.out.hp s3.ok g gt u dv D HC.out.db HC.out.d0 HC.out.dl w3 s3.sv s3.tk S3.out.u S3.out.d
  clear C3 b3 S2 s3
  go_wp2_with fail
  refine Calls.mono C4.out ?_
  rintro e w4 ⟨rfl, b4⟩
  have HE : Hid _ := (S3.out.below b4).bl
  clear C4 b4 S3
  go_wp2
  go_ret
  exact ⟨rfl, HE.out⟩
end Go.Proofs.Ytceaklefdahfkab

/- SieveFresh: FrJ. -/
namespace Go.Proofs.Ytceaklefdahfkab
open Go.RowKit
theorem c6 (i : Nat) (h : i < 6) : (i : Int) < 6 := by omega
theorem w100 (i : Nat) (h : i < 6) : wrap64 (100 + (i : Int)) = 100 + (i : Int) := by unfold wrap64; omega
theorem w200 (i : Nat) (h : i < 6) : wrap64 (200 + (i : Int)) = 200 + (i : Int) := by unfold wrap64; omega
theorem b100 (i : Nat) (h : i < 6) : IntKind.u8.wrap (100 + (i : Int)) = 100 + (i : Int) := by rw [IntKind.wrap_u8]; omega
theorem b200 (i : Nat) (h : i < 6) : IntKind.u8.wrap (200 + (i : Int)) = 200 + (i : Int) := by rw [IntKind.wrap_u8]; omega
set_option maxRecDepth 100000 in
set_option maxHeartbeats 6400000 in
theorem fr60 {ws : List ByteArray} {m : Nat} {ns : List Nat} {g gt : Nat} {D : List Nat} {u dv wv : Value} (W X : World) (bo bl B : Nat) (ov lv : Nat → Value) (no : Nat → Nat) (Y Z : Nat → List Value) (C : Ctf ws m D) (hS : Sta ws m ns g gt D u dv wv W X) (ao : Arr bo 51 6 ov X) (al : Arr bl 51 6 lv X) (M : Mor B 5 1 6 ov lv no Y Z 6 X) (hY : ∀ i, i < 6 → ∀ k, k < no i → (Y i)[k]? = some (.int .u8 (100 + (i : Int)))) (hZ : ∀ i, i < 6 → (Z i)[63]? = some (.int .u8 (200 + (i : Int)))) (hn : ∀ i, i < 6 → no i ≤ 1099511627776) {v0 v1 v2 v3 v4 v5 v6 v7 v8 v12 v14 v15 v16 v17 v18 v19 v21 v22 v23 v24 v25 v26 v28 v29 v30 v31 v32 v33 v34 v35 v36 v37 v38 v39 v40 v41 v42 v43 v44 v45 v46 v47 v48 v49 v50 v51 v52 v53 v54 v55 v56 v57 v58 v59 v60 v61 v62 v63 v64 v65 v66 v67 v68 v69 v70 v71 v72 v73 v74 v75 v76 v77 v78 v79 v80 v81 v82 v83 v84 v85 v86 v87 v88 v89 v90 v91 v92 v93 v94 v95 v96 v97 v98 v99 v100 v101 v102 v103 v104 v105 v106 v107 v108 v109 v110 v111 v112 v113 v114 v115 v116 v117 v118 v119 v120 v121 v122 v123 v124 v125 v126 v127 v128 v129 v130 v131 v132 v133 v134 v135 v136 v137 v138 v139 v140 v141 v142 v143 v144 v145 v146 v147 v148 v149 v150 v151 v152 v153 v154 v155 v156 v157 v158 v159 v160 v161 v162 v163 v164 v165 v166 v167 v168 v169 v170 v171 v172 v173 v174 v175 v176 v177 v178 v179 v180 v181 v182 v183 v184 v185 v186 v187 v188 v189 v190 v191 v192 v193 v194 v195 v196 v197 v198 v199 v200 v201 v202 v203 v204 v205 v206 v207 v208 v209 v210 v211 v212 v213 v214 v215 v216 v217 v218 v219 v220 v221 v222 v223 v224 v225 v226 v227 v228 v229 v230 v231 v232 v233 v234 v235 v236 v237 v238 v239 v240 v241 v242 v243 v244 v245 v246 v247 v248 v249 v250 v251 v252 v253 v254 v255 v256 v257 v258 v259 v260 v261 v262 v263 v264 v265 v266 v267 v268 v269 v270 v271 v272 v273 v274 v275 v276 v277 v278 v279 v280 v281 v282 v283 v284 v285 v286 v287 v288 v289 v290 v291 v292 v293 v294 v295 v296 v297 v298 v299 v300 v301 v302 v303 v304 v305 v306 v307 v308 v309 v310 v311 v312 v313 v314 v315 v316 v317 v318 v319 v320 v321 v322 v323 v324 v325 v326 v327 v328 v329 v330 v331 v332 v333 v334 v335 v336 v337 v338 v339 v340 v341 v342 v343 v344 v345 v346 v347 v348 v349 v350 v351 v352 v353 v354 v355 v356 v357 v358 v359 v360 v361 v362 v363 v364 v365 v366 v367 v368 v369 v370 v371 v372 v373 v374 v375 v376 v377 v378 v379 v380 v381 v382 v383 v384 v385 v386 v387 v388 v389 v390 v391 v392 v393 v394 : Value} :
    Code.wp Try.prog (tlG Try.f4 60) (bodyPost Try.prog Try.f4 (fun e w' => e = .returned (.bool true) ∧ Below W.heap.size W w')) ⟨#[v0, v1, v2, v3, v4, v5, v6, v7, v8, u, dv, .pointer (some ⟨g, 0, none⟩), v12, wv, v14, v15, v16, v17, v18, v19, .pointer (some ⟨bo, 0, none⟩), v21, v22, v23, v24, v25, v26, .pointer (some ⟨bl, 0, none⟩), v28, v29, v30, v31, v32, v33, v34, v35, v36, v37, v38, v39, v40, v41, v42, v43, v44, v45, v46, v47, v48, v49, v50, v51, v52, v53, v54, v55, v56, v57, v58, v59, v60, v61, v62, v63, v64, v65, v66, v67, v68, v69, v70, v71, v72, v73, v74, v75, v76, v77, v78, v79, v80, v81, v82, v83, v84, v85, v86, v87, v88, v89, v90, v91, v92, v93, v94, v95, v96, v97, v98, v99, v100, v101, v102, v103, v104, v105, v106, v107, v108, v109, v110, v111, v112, v113, v114, v115, v116, v117, v118, v119, v120, v121, v122, v123, v124, v125, v126, v127, v128, v129, v130, v131, v132, v133, v134, v135, v136, v137, v138, v139, v140, v141, v142, v143, v144, v145, v146, v147, v148, v149, v150, v151, v152, v153, v154, v155, v156, v157, v158, v159, v160, v161, v162, v163, v164, v165, v166, v167, v168, v169, v170, v171, v172, v173, v174, v175, v176, v177, v178, v179, v180, v181, v182, v183, v184, v185, v186, v187, v188, v189, v190, v191, v192, v193, v194, v195, v196, v197, v198, v199, v200, v201, v202, v203, v204, v205, v206, v207, v208, v209, v210, v211, v212, v213, v214, v215, v216, v217, v218, v219, v220, v221, v222, v223, v224, v225, v226, v227, v228, v229, v230, v231, v232, v233, v234, v235, v236, v237, v238, v239, v240, v241, v242, v243, v244, v245, v246, v247, v248, v249, v250, v251, v252, v253, v254, v255, v256, v257, v258, v259, v260, v261, v262, v263, v264, v265, v266, v267, v268, v269, v270, v271, v272, v273, v274, v275, v276, v277, v278, v279, v280, v281, v282, v283, v284, v285, v286, v287, v288, v289, v290, v291, v292, v293, v294, v295, v296, v297, v298, v299, v300, v301, v302, v303, v304, v305, v306, v307, v308, v309, v310, v311, v312, v313, v314, v315, v316, v317, v318, v319, v320, v321, v322, v323, v324, v325, v326, v327, v328, v329, v330, v331, v332, v333, v334, v335, v336, v337, v338, v339, v340, v341, v342, v343, v344, v345, v346, v347, v348, v349, v350, v351, v352, v353, v354, v355, v356, v357, v358, v359, v360, v361, v362, v363, v364, v365, v366, v367, v368, v369, v370, v371, v372, v373, v374, v375, v376, v377, v378, v379, v380, v381, v382, v383, v384, v385, v386, v387, v388, v389, v390, v391, v392, v393, v394], []⟩ X := by
  have HS : Hid (Sta ws m ns g gt D u dv wv W X ∧ Ctf ws m D) := ⟨hS, C⟩
  have HA : Hid (∀ wr, Below X.heap.size X wr → ∀ i, i < 6 → ∃ o c g' c', wr.cell? ⟨bo, i, none⟩ = some (.slice o (no i) c) ∧ wr.cell? ⟨bl, i, none⟩ = some (.slice (some ⟨g', 0, none⟩) (no i + 64) c') ∧ no i ≤ 1099511627776 ∧ wr.cell? ⟨g', no i + 63, none⟩ = some (.int .u8 (200 + (i : Int))) ∧ ∀ k, k < no i → ∃ gg, o = some ⟨gg, 0, none⟩ ∧ wr.cell? ⟨gg, k, none⟩ = some (.int .u8 (100 + (i : Int))) ∧ wr.cell? ⟨g', k, none⟩ = some (.int .u8 (100 + (i : Int)))) := fun wr hb i hi => by
    have ao' : Arr bo 51 6 ov wr := ao.keep (hb.block bo ao.lt)
    have al' : Arr bl 51 6 lv wr := al.keep (hb.block bl al.lt)
    have o1 := (M.fam.ow i hi).bel hb
    have o2 := (M.ow i hi).bel hb
    obtain ⟨o, c, e1, _, _, h1⟩ := o1.form
    obtain ⟨g', c', e2, _, _, _⟩ := o2.pos (by omega)
    have hb2 : bk (lv i) = some g' := by rw [e2]; rfl
    have hl : (Y i).length = no i * 1 := o1.1
    have c1 := ao'.cell i hi
    have c2 := al'.cell i hi
    rw [e1] at c1
    rw [e2] at c2
    refine ⟨o, c, g', c' + 1, c1, c2, hn i hi, o2.cell hb2 _ _ ?_, fun k hk => ?_⟩
    · rw [List.getElem?_append_right (by omega), show no i + 63 - (Y i).length = 63 by omega]
      exact hZ i hi
    · obtain ⟨gg, e3, e4⟩ := h1 k hk
      refine ⟨gg, e3, o1.cell e4 k _ (hY i hi k hk), o2.cell hb2 k _ ?_⟩
      rw [List.getElem?_append_left (by omega)]
      exact hY i hi k hk
  clear hS C ao al M hY hZ hn
  conv => arg 2; whnf
  refine wp_seq_k ?_
  intro K hK
  have HK2 : Hid (∀ q w, Code.wp Try.prog (tlG Try.f4 70) (bodyPost Try.prog Try.f4 (fun e w' => e = .returned (.bool true) ∧ Below W.heap.size W w')) q w → K q w) := hK
  clear hK
  go_wp2_with fail
  go_loopw [34] (fun iv wr => ∃ i : Nat, iv = .int .i64 (i : Int) ∧ i ≤ 6 ∧ Hid (Below X.heap.size X wr)) (fun iv _ => 6 - (intOf iv).toNat)
  case atStart => exact ⟨0, rfl, by omega, Below.refl _ _⟩
  case round =>
    obtain ⟨i, rfl, hi, HB⟩ := hrel
    by_cases hlt : i < 6
    · have i0 : (0 : Int) ≤ (i : Int) := by omega
      have i6 := c6 i hlt
      have q1 := w100 i hlt
      have q2 := w200 i hlt
      have q3 := b100 i hlt
      have q4 := b200 i hlt
      obtain ⟨n, en⟩ : ∃ n, no i = n := ⟨_, rfl⟩
      have hno : n ≤ 1099511627776 := by rw [← en]; exact (HA.out wr HB.out i hlt).choose_spec.choose_spec.choose_spec.choose_spec.2.2.1
      have HEN : Hid (no i = n ∧ i < 6) := ⟨en, hlt⟩
      clear en hlt hi
      go_wp2_with fail
      go_loopw [35] (fun kv wr2 => ∃ k : Nat, kv = .int .i64 (k : Int) ∧ k ≤ n ∧ Hid (Below X.heap.size X wr2)) (fun kv _ => n - (intOf kv).toNat)
      case atStart => exact ⟨0, rfl, by omega, HB.out⟩
      case round =>
        obtain ⟨k, rfl, hk, HB2⟩ := hrel
        obtain ⟨o, c, g', c', k1, k2, -, k3, k4⟩ := HA.out wr HB2.out i HEN.out.2
        rw [HEN.out.1] at k1 k2 k3 k4
        by_cases hlt : k < n
        · obtain ⟨gg, rfl, k5, k6⟩ := k4 k hlt
          have e0 : (0 : Int) ≤ (k : Int) := by omega
          have e1 : (k : Int) < (n : Int) := by omega
          have e2 : (k : Int) < ((n + 64 : Nat) : Int) := by omega
          clear k3 k4
          go_wp2
          go_roundw
          case rel => exact ⟨k + 1, by simp, by omega, HB2.out⟩
          case measure => simp [intOf]; omega
        · have hkn : k = n := by omega
          subst hkn
          have e0 : (0 : Int) ≤ ((k + 63 : Nat) : Int) := by omega
          have e1 : ((k + 63 : Nat) : Int) < ((k + 64 : Nat) : Int) := by omega
          have e2 : wrap64 ((k : Int) + 63) = ((k + 63 : Nat) : Int) := by unfold wrap64; omega
          clear k4 hlt hk
          go_wp2_with fail
          go_quiet (fail)
          go_wp2
          go_roundw
          case rel => exact ⟨i + 1, by simp, HEN.out.2, Below.drewN' HB2.out _⟩
          case measure =>
            have := HEN.out.2
            simp [intOf]; omega
    · have hin : i = 6 := by omega
      subst hin
      go_wp2_with fail
      exact HK2.out _ _ (fr70 W wr HS.out.2 (HS.out.1.below HB.out))
end Go.Proofs.Ytceaklefdahfkab

/- SieveFresh: FrK. -/
namespace Go.Proofs.Ytceaklefdahfkab
open Go.RowKit
/-- The bytes' lists, each with more behind it, as they are looked at. -/
def OutE (B bo bl : Nat) (X : World) : Prop := ∃ (ov lv : Nat → Value) (no : Nat → Nat) (Y Z : Nat → List Value), Arr bo 51 6 ov X ∧ Arr bl 51 6 lv X ∧ Mor B 5 1 6 ov lv no Y Z 6 X ∧ (∀ i, i < 6 → ∀ k, k < no i → (Y i)[k]? = some (.int .u8 (100 + (i : Int)))) ∧ (∀ i, i < 6 → (Z i)[63]? = some (.int .u8 (200 + (i : Int)))) ∧ (∀ i, i < 6 → no i ≤ 1099511627776)
theorem OutE.bel {B bo bl : Nat} {X X' : World} (h : OutE B bo bl X) (hb : Below X.heap.size X X') : OutE B bo bl X' := by
  obtain ⟨ov, lv, no, Y, Z, h1, h2, h3, h4⟩ := h
  exact ⟨ov, lv, no, Y, Z, h1.keep (hb.block bo h1.lt), h2.keep (hb.block bl h2.lt), h3.keep hb.size (fun g _ _ hz => hb.block g hz), h4⟩
theorem c4 (i : Nat) (h : i < 4) : (i : Int) < 4 := by omega
theorem w1000 (i : Nat) (h : i < 4) : wrap64 (1000 + (i : Int)) = 1000 + (i : Int) := by unfold wrap64; omega
theorem w2000 (i : Nat) (h : i < 4) : wrap64 (2000 + (i : Int)) = 2000 + (i : Int) := by unfold wrap64; omega
theorem wneg (k : Nat) (h : k ≤ 1099511627776) : wrap64 (-(k : Int)) = -(k : Int) := by unfold wrap64; omega
set_option maxRecDepth 100000 in
set_option maxHeartbeats 6400000 in
theorem fr50 {ws : List ByteArray} {m : Nat} {ns : List Nat} {g gt : Nat} {D : List Nat} {u dv wv : Value} (W X : World) (bh bm bo bl B : Nat) (hv mv : Nat → Value) (nh : Nat → Nat) (XH ZH : Nat → List Value) (C : Ctf ws m D) (hS : Sta ws m ns g gt D u dv wv W X) (ah : Arr bh 50 4 hv X) (am : Arr bm 50 4 mv X) (M : Mor B 39 2 4 hv mv nh XH ZH 4 X) (hX : ∀ i, i < 4 → ∀ k, k < nh i → (XH i)[k * 2]? = some (.int .i64 (1000 + (i : Int))) ∧ (XH i)[k * 2 + 1]? = some (.int .i64 (-(k : Int)))) (hZ : ∀ i, i < 4 → (ZH i)[126]? = some (.int .i64 (2000 + (i : Int)))) (hn : ∀ i, i < 4 → nh i ≤ 1099511627776) (hO : OutE B bo bl X) {v0 v1 v2 v3 v4 v5 v6 v7 v8 v12 v14 v15 v16 v17 v19 v21 v22 v23 v25 v26 v28 v29 v30 v31 v32 v33 v34 v35 v36 v37 v38 v39 v40 v41 v42 v43 v44 v45 v46 v47 v48 v49 v50 v51 v52 v53 v54 v55 v56 v57 v58 v59 v60 v61 v62 v63 v64 v65 v66 v67 v68 v69 v70 v71 v72 v73 v74 v75 v76 v77 v78 v79 v80 v81 v82 v83 v84 v85 v86 v87 v88 v89 v90 v91 v92 v93 v94 v95 v96 v97 v98 v99 v100 v101 v102 v103 v104 v105 v106 v107 v108 v109 v110 v111 v112 v113 v114 v115 v116 v117 v118 v119 v120 v121 v122 v123 v124 v125 v126 v127 v128 v129 v130 v131 v132 v133 v134 v135 v136 v137 v138 v139 v140 v141 v142 v143 v144 v145 v146 v147 v148 v149 v150 v151 v152 v153 v154 v155 v156 v157 v158 v159 v160 v161 v162 v163 v164 v165 v166 v167 v168 v169 v170 v171 v172 v173 v174 v175 v176 v177 v178 v179 v180 v181 v182 v183 v184 v185 v186 v187 v188 v189 v190 v191 v192 v193 v194 v195 v196 v197 v198 v199 v200 v201 v202 v203 v204 v205 v206 v207 v208 v209 v210 v211 v212 v213 v214 v215 v216 v217 v218 v219 v220 v221 v222 v223 v224 v225 v226 v227 v228 v229 v230 v231 v232 v233 v234 v235 v236 v237 v238 v239 v240 v241 v242 v243 v244 v245 v246 v247 v248 v249 v250 v251 v252 v253 v254 v255 v256 v257 v258 v259 v260 v261 v262 v263 v264 v265 v266 v267 v268 v269 v270 v271 v272 v273 v274 v275 v276 v277 v278 v279 v280 v281 v282 v283 v284 v285 v286 v287 v288 v289 v290 v291 v292 v293 v294 v295 v296 v297 v298 v299 v300 v301 v302 v303 v304 v305 v306 v307 v308 v309 v310 v311 v312 v313 v314 v315 v316 v317 v318 v319 v320 v321 v322 v323 v324 v325 v326 v327 v328 v329 v330 v331 v332 v333 v334 v335 v336 v337 v338 v339 v340 v341 v342 v343 v344 v345 v346 v347 v348 v349 v350 v351 v352 v353 v354 v355 v356 v357 v358 v359 v360 v361 v362 v363 v364 v365 v366 v367 v368 v369 v370 v371 v372 v373 v374 v375 v376 v377 v378 v379 v380 v381 v382 v383 v384 v385 v386 v387 v388 v389 v390 v391 v392 v393 v394 : Value} :
    Code.wp Try.prog (tlG Try.f4 50) (bodyPost Try.prog Try.f4 (fun e w' => e = .returned (.bool true) ∧ Below W.heap.size W w')) ⟨#[v0, v1, v2, v3, v4, v5, v6, v7, v8, u, dv, .pointer (some ⟨g, 0, none⟩), v12, wv, v14, v15, v16, v17, .pointer (some ⟨bh, 0, none⟩), v19, .pointer (some ⟨bo, 0, none⟩), v21, v22, v23, .pointer (some ⟨bm, 0, none⟩), v25, v26, .pointer (some ⟨bl, 0, none⟩), v28, v29, v30, v31, v32, v33, v34, v35, v36, v37, v38, v39, v40, v41, v42, v43, v44, v45, v46, v47, v48, v49, v50, v51, v52, v53, v54, v55, v56, v57, v58, v59, v60, v61, v62, v63, v64, v65, v66, v67, v68, v69, v70, v71, v72, v73, v74, v75, v76, v77, v78, v79, v80, v81, v82, v83, v84, v85, v86, v87, v88, v89, v90, v91, v92, v93, v94, v95, v96, v97, v98, v99, v100, v101, v102, v103, v104, v105, v106, v107, v108, v109, v110, v111, v112, v113, v114, v115, v116, v117, v118, v119, v120, v121, v122, v123, v124, v125, v126, v127, v128, v129, v130, v131, v132, v133, v134, v135, v136, v137, v138, v139, v140, v141, v142, v143, v144, v145, v146, v147, v148, v149, v150, v151, v152, v153, v154, v155, v156, v157, v158, v159, v160, v161, v162, v163, v164, v165, v166, v167, v168, v169, v170, v171, v172, v173, v174, v175, v176, v177, v178, v179, v180, v181, v182, v183, v184, v185, v186, v187, v188, v189, v190, v191, v192, v193, v194, v195, v196, v197, v198, v199, v200, v201, v202, v203, v204, v205, v206, v207, v208, v209, v210, v211, v212, v213, v214, v215, v216, v217, v218, v219, v220, v221, v222, v223, v224, v225, v226, v227, v228, v229, v230, v231, v232, v233, v234, v235, v236, v237, v238, v239, v240, v241, v242, v243, v244, v245, v246, v247, v248, v249, v250, v251, v252, v253, v254, v255, v256, v257, v258, v259, v260, v261, v262, v263, v264, v265, v266, v267, v268, v269, v270, v271, v272, v273, v274, v275, v276, v277, v278, v279, v280, v281, v282, v283, v284, v285, v286, v287, v288, v289, v290, v291, v292, v293, v294, v295, v296, v297, v298, v299, v300, v301, v302, v303, v304, v305, v306, v307, v308, v309, v310, v311, v312, v313, v314, v315, v316, v317, v318, v319, v320, v321, v322, v323, v324, v325, v326, v327, v328, v329, v330, v331, v332, v333, v334, v335, v336, v337, v338, v339, v340, v341, v342, v343, v344, v345, v346, v347, v348, v349, v350, v351, v352, v353, v354, v355, v356, v357, v358, v359, v360, v361, v362, v363, v364, v365, v366, v367, v368, v369, v370, v371, v372, v373, v374, v375, v376, v377, v378, v379, v380, v381, v382, v383, v384, v385, v386, v387, v388, v389, v390, v391, v392, v393, v394], []⟩ X := by
  have HS : Hid (Sta ws m ns g gt D u dv wv W X ∧ Ctf ws m D ∧ OutE B bo bl X) := ⟨hS, C, hO⟩
  have HA : Hid (∀ wr, Below X.heap.size X wr → ∀ i, i < 4 → ∃ o c g' c', wr.cell? ⟨bh, i, none⟩ = some (.slice o (nh i) c) ∧ wr.cell? ⟨bm, i, none⟩ = some (.slice (some ⟨g', 0, none⟩) (nh i + 64) c') ∧ nh i ≤ 1099511627776 ∧ wr.cell? ⟨g', (nh i + 63) * 2, none⟩ = some (.int .i64 (2000 + (i : Int))) ∧ ∀ k, k < nh i → ∃ gg, o = some ⟨gg, 0, none⟩ ∧ wr.cell? ⟨gg, k * 2, none⟩ = some (.int .i64 (1000 + (i : Int))) ∧ wr.cell? ⟨gg, k * 2 + 1, none⟩ = some (.int .i64 (-(k : Int))) ∧ wr.cell? ⟨g', k * 2, none⟩ = some (.int .i64 (1000 + (i : Int))) ∧ wr.cell? ⟨g', k * 2 + 1, none⟩ = some (.int .i64 (-(k : Int)))) := fun wr hb i hi => by
    have ao' : Arr bh 50 4 hv wr := ah.keep (hb.block bh ah.lt)
    have al' : Arr bm 50 4 mv wr := am.keep (hb.block bm am.lt)
    have o1 := (M.fam.ow i hi).bel hb
    have o2 := (M.ow i hi).bel hb
    obtain ⟨o, c, e1, _, _, h1⟩ := o1.form
    obtain ⟨g', c', e2, _, _, _⟩ := o2.pos (by omega)
    have hb2 : bk (mv i) = some g' := by rw [e2]; rfl
    have hl : (XH i).length = nh i * 2 := o1.1
    have c1 := ao'.cell i hi
    have c2 := al'.cell i hi
    rw [e1] at c1
    rw [e2] at c2
    refine ⟨o, c, g', c' + 1, c1, c2, hn i hi, o2.cell hb2 _ _ ?_, fun k hk => ?_⟩
    · rw [List.getElem?_append_right (by omega), show (nh i + 63) * 2 - (XH i).length = 126 by omega]
      exact hZ i hi
    · obtain ⟨gg, e3, e4⟩ := h1 k hk
      refine ⟨gg, e3, o1.cell e4 _ _ (hX i hi k hk).1, o1.cell e4 _ _ (hX i hi k hk).2, o2.cell hb2 _ _ ?_, o2.cell hb2 _ _ ?_⟩
      · rw [List.getElem?_append_left (by omega)]
        exact (hX i hi k hk).1
      · rw [List.getElem?_append_left (by omega)]
        exact (hX i hi k hk).2
  clear hS C ah am M hX hZ hn hO
  conv => arg 2; whnf
  refine wp_seq_k ?_
  intro K hK
  have HK2 : Hid (∀ q w, Code.wp Try.prog (tlG Try.f4 60) (bodyPost Try.prog Try.f4 (fun e w' => e = .returned (.bool true) ∧ Below W.heap.size W w')) q w → K q w) := hK
  clear hK
  go_wp2_with fail
  go_loopw [32] (fun iv wr => ∃ i : Nat, iv = .int .i64 (i : Int) ∧ i ≤ 4 ∧ Hid (Below X.heap.size X wr)) (fun iv _ => 4 - (intOf iv).toNat)
  case atStart => exact ⟨0, rfl, by omega, Below.refl _ _⟩
  case round =>
    obtain ⟨i, rfl, hi, HB⟩ := hrel
    by_cases hlt : i < 4
    · have i0 : (0 : Int) ≤ (i : Int) := by omega
      have i6 := c4 i hlt
      have q1 := w1000 i hlt
      have q2 := w2000 i hlt
      obtain ⟨n, en⟩ : ∃ n, nh i = n := ⟨_, rfl⟩
      have hno : n ≤ 1099511627776 := by rw [← en]; exact (HA.out wr HB.out i hlt).choose_spec.choose_spec.choose_spec.choose_spec.2.2.1
      have HEN : Hid (nh i = n ∧ i < 4) := ⟨en, hlt⟩
      clear en hlt hi
      go_wp2_with fail
      go_loopw [33] (fun kv wr2 => ∃ k : Nat, kv = .int .i64 (k : Int) ∧ k ≤ n ∧ Hid (Below X.heap.size X wr2)) (fun kv _ => n - (intOf kv).toNat)
      case atStart => exact ⟨0, rfl, by omega, HB.out⟩
      case round =>
        obtain ⟨k, rfl, hk, HB2⟩ := hrel
        obtain ⟨o, c, g', c', k1, k2, -, k3, k4⟩ := HA.out wr HB2.out i HEN.out.2
        rw [HEN.out.1] at k1 k2 k3 k4
        by_cases hlt : k < n
        · obtain ⟨gg, rfl, k5, k6, k7, k8⟩ := k4 k hlt
          have e0 : (0 : Int) ≤ (k : Int) := by omega
          have e1 : (k : Int) < (n : Int) := by omega
          have e2 : (k : Int) < ((n + 64 : Nat) : Int) := by omega
          have q3 := wneg k (by omega)
          clear k3 k4
          go_wp2_with fail
          go_quiet (fail)
          go_wp2
          go_roundw
          case rel => exact ⟨k + 1, by simp, by omega, Below.drewN' HB2.out _⟩
          case measure => simp [intOf]; omega
        · have hkn : k = n := by omega
          subst hkn
          have e0 : (0 : Int) ≤ ((k + 63 : Nat) : Int) := by omega
          have e1 : ((k + 63 : Nat) : Int) < ((k + 64 : Nat) : Int) := by omega
          have e2 : wrap64 ((k : Int) + 63) = ((k + 63 : Nat) : Int) := by unfold wrap64; omega
          clear k4 hlt hk
          go_wp2_with fail
          go_quiet (fail)
          go_wp2
          go_roundw
          case rel => exact ⟨i + 1, by simp, HEN.out.2, Below.drewN' HB2.out _⟩
          case measure =>
            have := HEN.out.2
            simp [intOf]; omega
    · have hin : i = 4 := by omega
      subst hin
      go_wp2_with fail
      obtain ⟨ov, lv, no, Y, Z, h1, h2, h3, h4, h5, h6⟩ := HS.out.2.2.bel HB.out
      exact HK2.out _ _ (fr60 W wr bo bl B ov lv no Y Z HS.out.2.1 (HS.out.1.below HB.out) h1 h2 h3 h4 h5 h6)
end Go.Proofs.Ytceaklefdahfkab
