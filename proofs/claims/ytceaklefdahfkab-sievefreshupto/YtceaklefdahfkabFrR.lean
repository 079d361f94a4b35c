/- SieveFresh: FrR. -/
import Derived.Test.YtceaklefdahfkabFrZ
namespace Go.Proofs.Ytceaklefdahfkab
open Go.RowKit
theorem all4 {p : Nat → Prop} (h0 : p 0) (h1 : p 1) (h2 : p 2) (h3 : p 3) : ∀ i, i < 4 → p i
  | 0, _ => h0
  | 1, _ => h1
  | 2, _ => h2
  | 3, _ => h3
  | n + 4, h => by omega
theorem all6 {p : Nat → Prop} (h0 : p 0) (h1 : p 1) (h2 : p 2) (h3 : p 3) (h4 : p 4) (h5 : p 5) : ∀ i, i < 6 → p i
  | 0, _ => h0
  | 1, _ => h1
  | 2, _ => h2
  | 3, _ => h3
  | 4, _ => h4
  | 5, _ => h5
  | n + 6, h => by omega
def pkE4 (a b c d : En) : Nat → En
  | 0 => a
  | 1 => b
  | 2 => c
  | _ => d
def pkE6 (a b c d e f : En) : Nat → En
  | 0 => a
  | 1 => b
  | 2 => c
  | 3 => d
  | 4 => e
  | _ => f
theorem Arr.cong {b N : Nat} {e : TypeId} {f f' : Nat → Value} {w : World} (h : Arr b e N f w) (hf : ∀ i, i < N → f i = f' i) : Arr b e N f' w := by
  obtain ⟨cu, h1, h2⟩ := h
  exact ⟨cu, h1, fun i hi => by rw [← hf i hi]; exact h2 i hi⟩
theorem famH {B : Nat} {w : World} {L : List En} {a b c d : En} (h : Alls L w) (ha : a ∈ L) (hb : b ∈ L) (hc : c ∈ L) (hd : d ∈ L) (he : a.e = 39 ∧ b.e = 39 ∧ c.e = 39 ∧ d.e = 39) (hs : a.sz = 2 ∧ b.sz = 2 ∧ c.sz = 2 ∧ d.sz = 2) (z0 : B ≤ a.lo) (z1 : a.hi ≤ b.lo) (z2 : b.hi ≤ c.lo) (z3 : c.hi ≤ d.lo) (y1 : a.lo ≤ a.hi ∧ b.lo ≤ b.hi) (y2 : c.lo ≤ c.hi) :
    Fam B 39 2 4 (fun i => (pkE4 a b c d i).v) (fun i => (pkE4 a b c d i).n) (fun i => (pkE4 a b c d i).xs) w := by
  refine fam_of (pkE4 a b c d) (all4 ⟨h a ha, he.1, hs.1, z0⟩ ⟨h b hb, he.2.1, hs.2.1, ?_⟩ ⟨h c hc, he.2.2.1, hs.2.2.1, ?_⟩ ⟨h d hd, he.2.2.2, hs.2.2.2, ?_⟩) (fun i j hij hj => ?_)
  · show B ≤ b.lo; omega
  · show B ≤ c.lo; omega
  · show B ≤ d.lo; omega
  · match i, j, hij, hj with
    | 0, 1, _, _ => exact z1
    | 0, 2, _, _ => show a.hi ≤ c.lo; omega
    | 0, 3, _, _ => show a.hi ≤ d.lo; omega
    | 1, 2, _, _ => exact z2
    | 1, 3, _, _ => show b.hi ≤ d.lo; omega
    | 2, 3, _, _ => exact z3
    | _, n + 4, _, h => omega
    | n + 3, m, h1, h2 => omega
theorem famO {B : Nat} {w : World} {L : List En} {a b c d e f : En} (h : Alls L w) (ha : a ∈ L) (hb : b ∈ L) (hc : c ∈ L) (hd : d ∈ L) (h5 : e ∈ L) (h6 : f ∈ L) (he : a.e = 5 ∧ b.e = 5 ∧ c.e = 5 ∧ d.e = 5 ∧ e.e = 5 ∧ f.e = 5) (hs : a.sz = 1 ∧ b.sz = 1 ∧ c.sz = 1 ∧ d.sz = 1 ∧ e.sz = 1 ∧ f.sz = 1) (z0 : B ≤ a.lo) (z1 : a.hi ≤ b.lo) (z2 : b.hi ≤ c.lo) (z3 : c.hi ≤ d.lo) (z4 : d.hi ≤ e.lo) (z5 : e.hi ≤ f.lo) (y1 : a.lo ≤ a.hi ∧ b.lo ≤ b.hi) (y2 : c.lo ≤ c.hi) (y3 : d.lo ≤ d.hi) (y4 : e.lo ≤ e.hi) :
    Fam B 5 1 6 (fun i => (pkE6 a b c d e f i).v) (fun i => (pkE6 a b c d e f i).n) (fun i => (pkE6 a b c d e f i).xs) w := by
  refine fam_of (pkE6 a b c d e f) (all6 ⟨h a ha, he.1, hs.1, z0⟩ ⟨h b hb, he.2.1, hs.2.1, ?_⟩ ⟨h c hc, he.2.2.1, hs.2.2.1, ?_⟩ ⟨h d hd, he.2.2.2.1, hs.2.2.2.1, ?_⟩ ⟨h e h5, he.2.2.2.2.1, hs.2.2.2.2.1, ?_⟩ ⟨h f h6, he.2.2.2.2.2, hs.2.2.2.2.2, ?_⟩) (fun i j hij hj => ?_)
  · show B ≤ b.lo; omega
  · show B ≤ c.lo; omega
  · show B ≤ d.lo; omega
  · show B ≤ e.lo; omega
  · show B ≤ f.lo; omega
  · match i, j, hij, hj with
    | 0, 1, _, _ => exact z1
    | 0, 2, _, _ => show a.hi ≤ c.lo; omega
    | 0, 3, _, _ => show a.hi ≤ d.lo; omega
    | 0, 4, _, _ => show a.hi ≤ e.lo; omega
    | 0, 5, _, _ => show a.hi ≤ f.lo; omega
    | 1, 2, _, _ => exact z2
    | 1, 3, _, _ => show b.hi ≤ d.lo; omega
    | 1, 4, _, _ => show b.hi ≤ e.lo; omega
    | 1, 5, _, _ => show b.hi ≤ f.lo; omega
    | 2, 3, _, _ => exact z3
    | 2, 4, _, _ => show c.hi ≤ e.lo; omega
    | 2, 5, _, _ => show c.hi ≤ f.lo; omega
    | 3, 4, _, _ => exact z4
    | 3, 5, _, _ => show d.hi ≤ f.lo; omega
    | 4, 5, _, _ => exact z5
    | _, n + 6, _, h => omega
    | n + 5, m, h1, h2 => omega
theorem mkHid {p : Prop} (h : p) : Hid p := h
theorem pk4_get (a b c d : Value) : ∀ i, i < 4 → (#[a, b, c, d])[i]? = some (pk4 a b c d i)
  | 0, _ => rfl
  | 1, _ => rfl
  | 2, _ => rfl
  | 3, _ => rfl
  | n + 4, h => by omega
theorem Arr.setA {b b' N N' : Nat} {e e' : TypeId} {f f' : Nat → Value} {w : World} (h : Arr b e N f w) (ha : Arr b' e' N' f' w) (he : e' ≠ e) (j : Nat) (v : Value) : Arr b e N f (w.setCell ⟨b', j, none⟩ v) := by
  obtain ⟨cu, h1, _⟩ := ha
  exact h.setO h1 he j v
section
attribute [local go_sem ↓] toApp
set_option maxRecDepth 100000 in
set_option maxHeartbeats 6400000 in
theorem fr12 {ws : List ByteArray} {m : Nat} {ns : List Nat} {g gt : Nat} {D : List Nat} {u dv wv : Value} (W X : World) (w0 : World) (gs gr lo hi : Nat) (tv fv : Value) (Df : List Nat) (C : Ctf ws m D) (hS : ∀ Z, Below w0.heap.size w0 Z → Sta ws m ns g gt D u dv wv W Z) (M0 : Mid ws m ns gs gr gt tv dv D w0 X.heap.size 0 [⟨5, 1, fv, Df.length, (ik .u8 Df).toList, lo, hi⟩] X) (c : MidC ws ns gs gr tv dv w0 X.heap.size) (hfl : Df.length = D.length) (hfb : Byt Df) {v0 v1 v2 v3 v4 v5 v6 v7 v8 v12 v16 v18 v19 v20 v21 v22 v23 v24 v25 v26 v27 v28 v29 v30 v31 v32 v33 v34 v35 v36 v37 v38 v39 v40 v41 v42 v43 v44 v45 v46 v47 v48 v49 v50 v51 v52 v53 v54 v55 v56 v57 v58 v59 v60 v61 v62 v63 v64 v65 v66 v67 v68 v69 v70 v71 v72 v73 v74 v75 v76 v77 v78 v79 v80 v81 v82 v83 v84 v85 v86 v87 v88 v89 v90 v91 v92 v93 v94 v95 v96 v97 v98 v99 v100 v101 v102 v103 v104 v105 v106 v107 v108 v109 v110 v111 v112 v113 v114 v115 v116 v117 v118 v119 v120 v121 v122 v123 v124 v125 v126 v127 v128 v129 v130 v131 v132 v133 v134 v135 v136 v137 v138 v139 v140 v141 v142 v143 v144 v145 v146 v147 v148 v149 v150 v151 v152 v153 v154 v155 v156 v157 v158 v159 v160 v161 v162 v163 v164 v165 v166 v167 v168 v169 v170 v171 v172 v173 v174 v175 v176 v177 v178 v179 v180 v181 v182 v183 v184 v185 v186 v187 v188 v189 v190 v191 v192 v193 v194 v195 v196 v197 v198 v199 v200 v201 v202 v203 v204 v205 v206 v207 v208 v209 v210 v211 v212 v213 v214 v215 v216 v217 v218 v219 v220 v221 v222 v223 v224 v225 v226 v227 v228 v229 v230 v231 v232 v233 v234 v235 v236 v237 v238 v239 v240 v241 v242 v243 v244 v245 v246 v247 v248 v249 v250 v251 v252 v253 v254 v255 v256 v257 v258 v259 v260 v261 v262 v263 v264 v265 v266 v267 v268 v269 v270 v271 v272 v273 v274 v275 v276 v277 v278 v279 v280 v281 v282 v283 v284 v285 v286 v287 v288 v289 v290 v291 v292 v293 v294 v295 v296 v297 v298 v299 v300 v301 v302 v303 v304 v305 v306 v307 v308 v309 v310 v311 v312 v313 v314 v315 v316 v317 v318 v319 v320 v321 v322 v323 v324 v325 v326 v327 v328 v329 v330 v331 v332 v333 v334 v335 v336 v337 v338 v339 v340 v341 v342 v343 v344 v345 v346 v347 v348 v349 v350 v351 v352 v353 v354 v355 v356 v357 v358 v359 v360 v361 v362 v363 v364 v365 v366 v367 v368 v369 v370 v371 v372 v373 v374 v375 v376 v377 v378 v379 v380 v381 v382 v383 v384 v385 v386 v387 v388 v389 v390 v391 v392 v393 v394 : Value} :
    Code.wp Try.prog (tlG Try.f4 12) (bodyPost Try.prog Try.f4 (fun e w' => e = .returned (.bool true) ∧ Below W.heap.size W w')) ⟨#[v0, v1, v2, v3, v4, v5, v6, v7, v8, u, dv, .pointer (some ⟨g, 0, none⟩), v12, wv, .pointer (some ⟨gs, 0, none⟩), .pointer (some ⟨gr, 0, none⟩), v16, fv, v18, v19, v20, v21, v22, v23, v24, v25, v26, v27, v28, v29, v30, v31, v32, v33, v34, v35, v36, v37, v38, v39, v40, v41, v42, v43, v44, v45, v46, v47, v48, v49, v50, v51, v52, v53, v54, v55, v56, v57, v58, v59, v60, v61, v62, v63, v64, v65, v66, v67, v68, v69, v70, v71, v72, v73, v74, v75, v76, v77, v78, v79, v80, v81, v82, v83, v84, v85, v86, v87, v88, v89, v90, v91, v92, v93, v94, v95, v96, v97, v98, v99, v100, v101, v102, v103, v104, v105, v106, v107, v108, v109, v110, v111, v112, v113, v114, v115, v116, v117, v118, v119, v120, v121, v122, v123, v124, v125, v126, v127, v128, v129, v130, v131, v132, v133, v134, v135, v136, v137, v138, v139, v140, v141, v142, v143, v144, v145, v146, v147, v148, v149, v150, v151, v152, v153, v154, v155, v156, v157, v158, v159, v160, v161, v162, v163, v164, v165, v166, v167, v168, v169, v170, v171, v172, v173, v174, v175, v176, v177, v178, v179, v180, v181, v182, v183, v184, v185, v186, v187, v188, v189, v190, v191, v192, v193, v194, v195, v196, v197, v198, v199, v200, v201, v202, v203, v204, v205, v206, v207, v208, v209, v210, v211, v212, v213, v214, v215, v216, v217, v218, v219, v220, v221, v222, v223, v224, v225, v226, v227, v228, v229, v230, v231, v232, v233, v234, v235, v236, v237, v238, v239, v240, v241, v242, v243, v244, v245, v246, v247, v248, v249, v250, v251, v252, v253, v254, v255, v256, v257, v258, v259, v260, v261, v262, v263, v264, v265, v266, v267, v268, v269, v270, v271, v272, v273, v274, v275, v276, v277, v278, v279, v280, v281, v282, v283, v284, v285, v286, v287, v288, v289, v290, v291, v292, v293, v294, v295, v296, v297, v298, v299, v300, v301, v302, v303, v304, v305, v306, v307, v308, v309, v310, v311, v312, v313, v314, v315, v316, v317, v318, v319, v320, v321, v322, v323, v324, v325, v326, v327, v328, v329, v330, v331, v332, v333, v334, v335, v336, v337, v338, v339, v340, v341, v342, v343, v344, v345, v346, v347, v348, v349, v350, v351, v352, v353, v354, v355, v356, v357, v358, v359, v360, v361, v362, v363, v364, v365, v366, v367, v368, v369, v370, v371, v372, v373, v374, v375, v376, v377, v378, v379, v380, v381, v382, v383, v384, v385, v386, v387, v388, v389, v390, v391, v392, v393, v394], []⟩ X := by
  have HC : Hid (Ctf ws m D ∧ MidC ws ns gs gr tv dv w0 X.heap.size ∧ Df.length = D.length ∧ Byt Df) := ⟨C, c, hfl, hfb⟩
  have HS : Hid (∀ Z, Below w0.heap.size w0 Z → Sta ws m ns g gt D u dv wv W Z) := hS
  obtain ⟨K0, _, F0⟩ := M0.f
  have S0 := hS X F0.bl
  have C1 : Hid _ := M0.scan C S0 D C.db (by have := C.dl; omega) dv S0.d
  clear hS M0 c hfl hfb C F0 S0
  obtain ⟨N, hN⟩ : ∃ N, N = X.heap.size := ⟨_, rfl⟩
  have HN : Hid (N = X.heap.size) := hN
  rw [← hN] at HC
  clear hN
  conv => arg 2; whnf
  go_wp2_with fail
  refine Calls.mono C1.out ?_
  rintro e w1 ⟨o0, c0, n0, rfl, hn0, H1⟩
  clear C1
  have M1 := H1.out.2.1
  rw [← HN.out] at M1
  obtain ⟨K1, _, F1⟩ := M1.f
  have C2 : Hid _ := M1.scan HC.out.1 (HS.out w1 F1.bl) Df HC.out.2.2.2 (by rw [HC.out.2.2.1]; have := HC.out.1.dl; omega) fv (ow_si (M1.a ⟨5, 1, fv, Df.length, (ik .u8 Df).toList, lo, hi⟩ (by simp)).2.1)
  have HN0 : Hid (n0 ≤ 1099511627776 ∧ n0 = (hts (ws.map tl) m D).length ∧ X.heap.size ≤ w1.heap.size) := ⟨hn0, H1.out.1, H1.out.2.2.size⟩
  clear M1 F1 H1 hn0
  go_wp2_with fail
  refine Calls.mono C2.out ?_
  rintro e w2 ⟨o1, c1, n1, rfl, hn1, H2⟩
  clear C2
  have C3 : Hid _ := H2.out.2.1.feedC HC.out.2.1 HC.out.1 (by omega)
  have HN1 : Hid (n1 ≤ 1099511627776 ∧ n1 = (hts (ws.map tl) m Df).length ∧ w1.heap.size ≤ w2.heap.size) := ⟨hn1, H2.out.1, H2.out.2.2.size⟩
  clear H2 hn1
  go_wp2_with fail
  refine Calls.mono C3.out ?_
  rintro e w3 ⟨o2, c2, n2, rfl, hn2, H3⟩
  clear C3
  obtain ⟨Hh2, M3, k3⟩ := H3.out
  have HN2 : Hid (n2 ≤ 1099511627776 ∧ w2.heap.size ≤ w3.heap.size) := ⟨hn2, k3.size⟩
  have HM3 : Hid _ := M3
  clear H3 M3 k3 hn2
  obtain ⟨w4, hw4⟩ : ∃ w, w3.alloc (.cells #[.slice o0 n0 c0, .slice o1 n1 c1, .slice o2 n2 c2, .slice none 0 0] 50) = w := ⟨_, rfl⟩
  have b34 : Below w3.heap.size w3 w4 := by rw [← hw4]; exact (Below.refl _ w3).alloc (Nat.le_refl _) _
  have A4 : Arr w3.heap.size 50 4 (pk4 (.slice o0 n0 c0) (.slice o1 n1 c1) (.slice o2 n2 c2) (.slice none 0 0)) w4 := by rw [← hw4]; exact ⟨_, heap_alloc_new w3 _, pk4_get _ _ _ _⟩
  have M4 := HM3.out.below b34
  have e1 := (M4.a ⟨39, 2, .slice o1 n1 c1, n1, hc (hts (ws.map tl) m Df), w1.heap.size, w2.heap.size⟩ (by simp)).2.1
  obtain ⟨btw, w5, r5, ob5, b5⟩ := run_cpH w4 31 (.slice o1 n1 c1) (hts (ws.map tl) m Df) (by rw [← HN1.out.2.1]; exact HN1.out.1) (ow_hl (by rw [← HN1.out.2.1]; exact e1))
  have M5 := (M4.below b5).add (.inr rfl) ob5
  have A5 := A4.kc (.inl rfl) (KC.below b5)
  have c41 : w4.cell? ⟨w3.heap.size, 1, none⟩ = some (.slice o1 n1 c1) := A4.cell 1 (by decide)
  obtain ⟨w6, hw6⟩ : ∃ w, w5.alloc (.cells #[.slice none 0 0, .slice none 0 0, .slice none 0 0, .slice none 0 0, .slice none 0 0, .slice none 0 0] 51) = w := ⟨_, rfl⟩
  have b56 : Below w5.heap.size w5 w6 := by rw [← hw6]; exact (Below.refl _ w5).alloc (Nat.le_refl _) _
  have M6 := M5.below b56
  have A6 := A5.kc (.inl rfl) (KC.below b56)
  have O6 : Arr w5.heap.size 51 6 (fun _ => .slice none 0 0) w6 := by rw [← hw6]; exact ⟨_, heap_alloc_new w5 _, nil6⟩
  obtain ⟨K6, _, F6⟩ := M6.f
  have C7 : Hid _ := rew_e HC.out.1 (HS.out w6 F6.bl) D HC.out.1.db (by have := HC.out.1.dl; omega) dv (HS.out w6 F6.bl).d
  have HZ : Hid (N ≤ w3.heap.size ∧ w3.heap.size < w5.heap.size ∧ w3.heap.size ≤ w4.heap.size ∧ w4.heap.size ≤ w5.heap.size ∧ w5.heap.size ≤ w6.heap.size) := ⟨HM3.out.nz, A5.lt, b34.size, b5.size, b56.size⟩
  have H6 : Hid (Mid ws m ns gs gr gt tv dv D w0 N (0 + 1000000000) [⟨39, 2, btw, (hts (ws.map tl) m Df).length, hc (hts (ws.map tl) m Df), w4.heap.size, w5.heap.size⟩, ⟨39, 2, .slice o2 n2 c2, n2, hc Hh2, w2.heap.size, w3.heap.size⟩, ⟨39, 2, .slice o1 n1 c1, n1, hc (hts (ws.map tl) m Df), w1.heap.size, w2.heap.size⟩, ⟨39, 2, .slice o0 n0 c0, n0, hc (hts (ws.map tl) m D), N, w1.heap.size⟩, ⟨5, 1, fv, Df.length, (ik .u8 Df).toList, lo, hi⟩] w6 ∧ Arr w3.heap.size 50 4 (pk4 (.slice o0 n0 c0) (.slice o1 n1 c1) (.slice o2 n2 c2) (.slice none 0 0)) w6 ∧ Arr w5.heap.size 51 6 (fun _ => .slice none 0 0) w6) := ⟨M6, A6, O6⟩
  clear b34 A4 M4 e1 ob5 b5 M5 A5 b56 M6 A6 O6 F6 HM3
  obtain ⟨R, hR⟩ : ∃ R, R = rwA m ws D (hts (ws.map tl) m D) := ⟨_, rfl⟩
  have HR : Hid (R = rwA m ws D (hts (ws.map tl) m D)) := hR
  rw [← hR] at C7
  clear hR
  obtain ⟨R1, R2, R3⟩ := R
  rw [← hw4] at r5
  clear hw4 c41
  go_wp2_with fail
  refine Calls.mono C7.out ?_
  rintro e w7 ⟨p0, q0, l0, rfl, hl0, H7⟩
  clear C7 r5 hw6
  generalize hbh : w3.heap.size = bh at *
  generalize hbo : w5.heap.size = bo at *
  clear hbh hbo
  have hzo : N ≤ bo := by have := HZ.out; omega
  have hzh : N ≤ bh := HZ.out.1
  have HZB : Hid (N ≤ bo ∧ N ≤ bh) := ⟨hzo, hzh⟩
  have Mw7 := (H6.out.1.below H7.out.2.2).add (.inl rfl) H7.out.2.1
  have Aw7 := H6.out.2.1.kc (.inl rfl) (KC.below H7.out.2.2)
  have Ow7 := H6.out.2.2.kc (.inr rfl) (KC.below H7.out.2.2)
  obtain ⟨oldw8, ckw8⟩ : ∃ old, w7.cell? ⟨bo, 0, none⟩ = some old := ⟨_, Ow7.cell 0 (by decide)⟩
  have fkw8 := Ow7.frozen 0
  obtain ⟨w8, hw8⟩ : ∃ w, w7.setCell ⟨bo, 0, none⟩ (.slice p0 l0 q0) = w := ⟨_, rfl⟩
  have zw8 : w8.heap.size = w7.heap.size := by rw [← hw8]; simp
  have Ow8 := Ow7.set 0 (.slice p0 l0 q0)
  rw [hw8] at Ow8
  have Aw8 := Aw7.setA Ow7 (by decide) 0 (.slice p0 l0 q0)
  rw [hw8] at Aw8
  have Mw8 := Mw7.set HC.out.2.1 Ow7 (.inr rfl) hzo 0 (.slice p0 l0 q0)
  rw [hw8] at Mw8
  obtain ⟨K8, _, F8⟩ := Mw8.f
  have C9 : Hid _ := msk_e HC.out.1 (HS.out w8 F8.bl)
  have Z8 : Hid (w6.heap.size ≤ w7.heap.size ∧ w8.heap.size = w7.heap.size ∧ l0 = R3.length ∧ l0 ≤ 1099511627776) := ⟨H7.out.2.2.size, zw8, H7.out.1, hl0⟩
  have HMw8 := mkHid Mw8
  have HAw8 := mkHid Aw8
  have HOw8 := mkHid Ow8
  clear Mw7 Aw7 Ow7 Mw8 Aw8 Ow8
  clear H6 H7 F8 zw8 hl0 hzo hzh
  go_wp2_with fail
  refine Calls.mono C9.out ?_
  rintro e w9 ⟨p1, q1, l1, p9, q9, l9, f9, k9, rfl, hl1, hl9, H9⟩
  clear C9 ckw8 fkw8 hw8 oldw8
  obtain ⟨⟨xs1, ys3, ow1, oh3⟩, b9⟩ := H9.out
  obtain ⟨hzo, hzh⟩ := HZB.out
  have Mw9 := ((HMw8.out.below b9).add (.inl rfl) ow1).add (.inr rfl) oh3
  have Aw9 := HAw8.out.kc (.inl rfl) (KC.below b9)
  have Ow9 := HOw8.out.kc (.inr rfl) (KC.below b9)
  obtain ⟨oldwa, ckwa⟩ : ∃ old, w9.cell? ⟨bo, 1, none⟩ = some old := ⟨_, Ow9.cell 1 (by decide)⟩
  have fkwa := Ow9.frozen 1
  obtain ⟨wa, hwa⟩ : ∃ w, w9.setCell ⟨bo, 1, none⟩ (.slice p1 l1 q1) = w := ⟨_, rfl⟩
  have zwa : wa.heap.size = w9.heap.size := by rw [← hwa]; simp
  have Owa := Ow9.set 1 (.slice p1 l1 q1)
  rw [hwa] at Owa
  have Awa := Aw9.setA Ow9 (by decide) 1 (.slice p1 l1 q1)
  rw [hwa] at Awa
  have Mwa := Mw9.set HC.out.2.1 Ow9 (.inr rfl) hzo 1 (.slice p1 l1 q1)
  rw [hwa] at Mwa
  obtain ⟨oldwb, ckwb⟩ : ∃ old, wa.cell? ⟨bh, 3, none⟩ = some old := ⟨_, Awa.cell 3 (by decide)⟩
  have fkwb := Awa.frozen 3
  obtain ⟨wb, hwb⟩ : ∃ w, wa.setCell ⟨bh, 3, none⟩ (.slice p9 l9 q9) = w := ⟨_, rfl⟩
  have zwb : wb.heap.size = wa.heap.size := by rw [← hwb]; simp
  have Awb := Awa.set 3 (.slice p9 l9 q9)
  rw [hwb] at Awb
  have Owb := Owa.setA Awa (by decide) 3 (.slice p9 l9 q9)
  rw [hwb] at Owb
  have Mwb := Mwa.set HC.out.2.1 Awa (.inl rfl) hzh 3 (.slice p9 l9 q9)
  rw [hwb] at Mwb
  have C11 : Hid _ := Mwb.feedW HC.out.2.1 HC.out.1 (by omega)
  have Z9 : Hid (w8.heap.size ≤ w9.heap.size ∧ wb.heap.size = w9.heap.size ∧ l1 ≤ 1099511627776 ∧ l9 ≤ 1099511627776) := ⟨b9.size, by omega, hl1, hl9⟩
  have HMwb := mkHid Mwb
  have HAwb := mkHid Awb
  have HOwb := mkHid Owb
  clear Mw9 Aw9 Ow9 Mwa Awa Owa Mwb Awb Owb
  clear H9 ow1 oh3 b9 zwa zwb hl1 hl9 hzo hzh HMw8 HAw8 HOw8
  go_wp2_with fail
  refine Calls.mono C11.out ?_
  rintro e wc ⟨p2, q2, l2, fc, kc, rfl, hl2, H11⟩
  clear C11 ckwa fkwa hwa oldwa ckwb fkwb hwb oldwb
  obtain ⟨xs2, Mwc, k11⟩ := H11.out
  obtain ⟨hzo, hzh⟩ := HZB.out
  have Awc := HAwb.out.kc (.inl rfl) k11
  have Owc := HOwb.out.kc (.inr rfl) k11
  obtain ⟨oldwd, ckwd⟩ : ∃ old, wc.cell? ⟨bo, 2, none⟩ = some old := ⟨_, Owc.cell 2 (by decide)⟩
  have fkwd := Owc.frozen 2
  obtain ⟨wd, hwd⟩ : ∃ w, wc.setCell ⟨bo, 2, none⟩ (.slice p2 l2 q2) = w := ⟨_, rfl⟩
  have zwd : wd.heap.size = wc.heap.size := by rw [← hwd]; simp
  have Owd := Owc.set 2 (.slice p2 l2 q2)
  rw [hwd] at Owd
  have Awd := Awc.setA Owc (by decide) 2 (.slice p2 l2 q2)
  rw [hwd] at Awd
  have Mwd := Mwc.set HC.out.2.1 Owc (.inr rfl) hzo 2 (.slice p2 l2 q2)
  rw [hwd] at Mwd
  have C13 : Hid _ := Mwd.close HC.out.2.1 HC.out.1
  have Z11 : Hid (wb.heap.size ≤ wc.heap.size ∧ wd.heap.size = wc.heap.size ∧ l2 ≤ 1099511627776) := ⟨k11.size, zwd, hl2⟩
  have HMwd := mkHid Mwd
  have HAwd := mkHid Awd
  have HOwd := mkHid Owd
  clear Mwc Awc Owc Mwd Awd Owd
  clear H11 k11 zwd hl2 hzo hzh HMwb HAwb HOwb
  go_wp2_with fail
  refine Calls.mono C13.out ?_
  rintro e we ⟨p3, q3, l3, fe, ke, rfl, hl3, H13⟩
  clear C13 ckwd fkwd hwd oldwd
  obtain ⟨xs3, Mwe, k13⟩ := H13.out
  obtain ⟨hzo, hzh⟩ := HZB.out
  have Awe := HAwd.out.kc (.inl rfl) k13
  have Owe := HOwd.out.kc (.inr rfl) k13
  obtain ⟨oldwf, ckwf⟩ : ∃ old, we.cell? ⟨bo, 3, none⟩ = some old := ⟨_, Owe.cell 3 (by decide)⟩
  have fkwf := Owe.frozen 3
  obtain ⟨wf, hwf⟩ : ∃ w, we.setCell ⟨bo, 3, none⟩ (.slice p3 l3 q3) = w := ⟨_, rfl⟩
  have zwf : wf.heap.size = we.heap.size := by rw [← hwf]; simp
  have Owf := Owe.set 3 (.slice p3 l3 q3)
  rw [hwf] at Owf
  have Awf := Awe.setA Owe (by decide) 3 (.slice p3 l3 q3)
  rw [hwf] at Awf
  have Mwf := Mwe.set HC.out.2.1.n5 Owe (.inr rfl) hzo 3 (.slice p3 l3 q3)
  rw [hwf] at Mwf
  have ef := (Mwf.a ⟨5, 1, fv, Df.length, (ik .u8 Df).toList, lo, hi⟩ (by simp)).2.1
  have C15 : Hid _ := rew_e HC.out.1 (HS.out wf Mwf.bl) Df HC.out.2.2.2 (by rw [HC.out.2.2.1]; have := HC.out.1.dl; omega) fv (ow_si ef)
  have Z13 : Hid (wd.heap.size ≤ we.heap.size ∧ wf.heap.size = we.heap.size ∧ l3 ≤ 1099511627776) := ⟨k13.size, zwf, hl3⟩
  have HMwf := mkHid Mwf
  have HAwf := mkHid Awf
  have HOwf := mkHid Owf
  clear Mwe Awe Owe Mwf Awf Owf
  clear H13 k13 zwf hl3 hzo hzh HMwd HAwd HOwd ef
  generalize rwA m ws Df (hts (ws.map tl) m Df) = Q at *
  obtain ⟨Q1, Q2, Q3⟩ := Q
  go_wp2_with fail
  refine Calls.mono C15.out ?_
  rintro e wg ⟨p4, q4, l4, rfl, hl4, H15⟩
  clear C15 ckwf fkwf hwf oldwf
  obtain ⟨hzo, hzh⟩ := HZB.out
  have Mwg := (HMwf.out.below H15.out.2.2).add (.inl rfl) H15.out.2.1
  have Awg := HAwf.out.kc (.inl rfl) (KC.below H15.out.2.2)
  have Owg := HOwf.out.kc (.inr rfl) (KC.below H15.out.2.2)
  obtain ⟨oldwh, ckwh⟩ : ∃ old, wg.cell? ⟨bo, 4, none⟩ = some old := ⟨_, Owg.cell 4 (by decide)⟩
  have fkwh := Owg.frozen 4
  obtain ⟨wh, hwh⟩ : ∃ w, wg.setCell ⟨bo, 4, none⟩ (.slice p4 l4 q4) = w := ⟨_, rfl⟩
  have zwh : wh.heap.size = wg.heap.size := by rw [← hwh]; simp
  have Owh := Owg.set 4 (.slice p4 l4 q4)
  rw [hwh] at Owh
  have Awh := Awg.setA Owg (by decide) 4 (.slice p4 l4 q4)
  rw [hwh] at Awh
  have Mwh := Mwg.set HC.out.2.1.n5 Owg (.inr rfl) hzo 4 (.slice p4 l4 q4)
  rw [hwh] at Mwh
  have C17 : Hid _ := msk_e HC.out.1 (HS.out wh Mwh.bl)
  have Z15 : Hid (wf.heap.size ≤ wg.heap.size ∧ wh.heap.size = wg.heap.size ∧ l4 ≤ 1099511627776) := ⟨H15.out.2.2.size, zwh, hl4⟩
  have HMwh := mkHid Mwh
  have HAwh := mkHid Awh
  have HOwh := mkHid Owh
  clear Mwg Awg Owg Mwh Awh Owh
  clear H15 zwh hl4 hzo hzh HMwf HAwf HOwf
  go_wp2_with fail
  refine Calls.mono C17.out ?_
  rintro e wi ⟨p5, q5, l5, p8, q8, l8, f17, k17, rfl, hl5, hl8, H17⟩
  clear C17 ckwh fkwh hwh oldwh
  obtain ⟨⟨xs5, ys8, ow5, oh8⟩, b17⟩ := H17.out
  obtain ⟨hzo, hzh⟩ := HZB.out
  have Mwi := (HMwh.out.below b17).add (.inl rfl) ow5
  have Awi := HAwh.out.kc (.inl rfl) (KC.below b17)
  have Owi := HOwh.out.kc (.inr rfl) (KC.below b17)
  obtain ⟨oldwj, ckwj⟩ : ∃ old, wi.cell? ⟨bo, 5, none⟩ = some old := ⟨_, Owi.cell 5 (by decide)⟩
  have fkwj := Owi.frozen 5
  obtain ⟨wj, hwj⟩ : ∃ w, wi.setCell ⟨bo, 5, none⟩ (.slice p5 l5 q5) = w := ⟨_, rfl⟩
  have zwj : wj.heap.size = wi.heap.size := by rw [← hwj]; simp
  have Owj := Owi.set 5 (.slice p5 l5 q5)
  rw [hwj] at Owj
  have Awj := Awi.setA Owi (by decide) 5 (.slice p5 l5 q5)
  rw [hwj] at Awj
  have Mwj := Mwi.set HC.out.2.1.n5 Owi (.inr rfl) hzo 5 (.slice p5 l5 q5)
  rw [hwj] at Mwj
  have C19 : Hid _ := rew_e HC.out.1 (HS.out wj Mwj.bl) D HC.out.1.db (by have := HC.out.1.dl; omega) dv (HS.out wj Mwj.bl).d
  rw [← HR.out] at C19
  have Z17 : Hid (wh.heap.size ≤ wi.heap.size ∧ wj.heap.size = wi.heap.size ∧ l5 ≤ 1099511627776) := ⟨b17.size, zwj, hl5⟩
  have HMwj := mkHid Mwj
  have HAwj := mkHid Awj
  have HOwj := mkHid Owj
  clear Mwi Awi Owi Mwj Awj Owj
  clear H17 ow5 oh8 b17 zwj hl5 hl8 hzo hzh HMwh HAwh HOwh
  go_wp2_with fail
  refine Calls.mono C19.out ?_
  rintro e wk ⟨pa, qa, la, rfl, hla, H19⟩
  clear C19 ckwj fkwj hwj oldwj
  have Mwk := HMwj.out.below H19.out.2.2
  have Awk := HAwj.out.kc (.inl rfl) (KC.below H19.out.2.2)
  have Owk := HOwj.out.kc (.inr rfl) (KC.below H19.out.2.2)
  have eh0 := (Mwk.a ⟨39, 2, .slice o0 n0 c0, n0, hc (hts (ws.map tl) m D), N, w1.heap.size⟩ (by simp)).2.1
  have y0 : wk.cell? ⟨bh, 0, none⟩ = some (.slice o0 n0 c0) := Awk.cell 0 (by decide)
  have s20 := same_gen _ _ (.slice o0 n0 c0) wv wk (ow_hl (by rw [← HN0.out.2.1]; exact eh0)) (HS.out wk Mwk.bl).wt
  simp only [decide_true] at s20
  have C20 := mkHid s20
  have Z19 := mkHid H19.out
  have HMwk := mkHid Mwk
  have HAwk := mkHid Awk
  have HOwk := mkHid Owk
  clear Mwk Awk Owk
  clear H19 hla HMwj HAwj HOwj s20 eh0
  go_wp2_with fail
  refine Calls.mono C20.out ?_
  rintro e wl ⟨rfl, b20⟩
  clear C20 y0
  have Mwl := HMwk.out.below b20
  have Awl := HAwk.out.kc (.inl rfl) (KC.below b20)
  have Owl := HOwk.out.kc (.inr rfl) (KC.below b20)
  have eh1 := (Mwl.a ⟨39, 2, .slice o1 n1 c1, n1, hc (hts (ws.map tl) m Df), w1.heap.size, w2.heap.size⟩ (by simp)).2.1
  have ebt := (Mwl.a ⟨39, 2, btw, (hts (ws.map tl) m Df).length, hc (hts (ws.map tl) m Df), w4.heap.size, bo⟩ (by simp)).2.1
  have y1 : wl.cell? ⟨bh, 1, none⟩ = some (.slice o1 n1 c1) := Awl.cell 1 (by decide)
  have s21 := same_gen _ _ (.slice o1 n1 c1) btw wl (ow_hl (by rw [← HN1.out.2.1]; exact eh1)) (ow_hl ebt)
  simp only [decide_true] at s21
  have C21 := mkHid s21
  have B20 := mkHid b20
  have HMwl := mkHid Mwl
  have HAwl := mkHid Awl
  have HOwl := mkHid Owl
  clear Mwl Awl Owl
  clear HMwk HAwk HOwk s21 eh1 ebt b20
  go_wp2_with fail
  refine Calls.mono C21.out ?_
  rintro e wm ⟨rfl, b21⟩
  clear C21 y1
  have Mwm := HMwl.out.below b21
  have Awm := HAwl.out.kc (.inl rfl) (KC.below b21)
  have Owm := HOwl.out.kc (.inr rfl) (KC.below b21)
  have b2 : Below wk.heap.size wk wm := B20.out.trans (b21.mono B20.out.size)
  have ca : (convert 23 9 (.slice pa la qa)).run Try.prog wm = .ok (.string (bst R3)) wm := conv_si (ow_si (by rw [← Z19.out.1]; exact Z19.out.2.1.bel b2))
  have y2 : wm.cell? ⟨bo, 0, none⟩ = some (.slice p0 l0 q0) := Owm.cell 0 (by decide)
  have ep0 := (Mwm.a ⟨5, 1, .slice p0 l0 q0, l0, (ik .u8 R3).toList, w6.heap.size, w7.heap.size⟩ (by simp)).2.1
  have cb : (convert 23 9 (.slice p0 l0 q0)).run Try.prog wm = .ok (.string (bst R3)) wm := conv_si (ow_si (by rw [← Z8.out.2.2.1]; exact ep0))
  generalize bst R3 = tR at ca cb
  have HMwm := mkHid Mwm
  have HAwm := mkHid Awm
  have HOwm := mkHid Owm
  clear Mwm Awm Owm
  clear HMwl HAwl HOwl b21 b2 B20 ep0
  go_upto_region 24 with fail
  rename_i K hK
  have HK2 : Hid (∀ q w, Code.wp Try.prog (tlG Try.f4 25) (bodyPost Try.prog Try.f4 (fun e w' => e = .returned (.bool true) ∧ Below W.heap.size W w')) q w → K q w) := hK
  clear hK
  go_wp2_with fail
  refine HK2.out _ _ ?_
  obtain ⟨hC, cM, _, _⟩ := HC.out
  have Mw := HMwm.out
  have n5 := cM.n5
  have z0 := HN0.out.2.2
  have z1 := HN1.out.2.2
  have z2 := HN2.out.2
  have z3 := HZ.out
  have z4 := Z8.out
  have z5 := Z9.out
  have z6 := Z11.out
  have z7 := Z13.out
  have z8 := Z15.out
  have z9 := Z17.out
  have zN := HN.out
  have hb : Below wm.heap.size wm (wm.alloc (.cells #[.slice none 0 0, .slice none 0 0, .slice none 0 0, .slice none 0 0] 50)) := (Below.refl _ wm).alloc (Nat.le_refl _) _
  have hnz : N ≤ wm.heap.size := Mw.nz
  have FH := famH (B := N) Mw.a (by simp) (by simp) (by simp) (by simp) (a := ⟨39, 2, .slice o0 n0 c0, n0, hc (hts (ws.map tl) m D), N, w1.heap.size⟩) (b := ⟨39, 2, .slice o1 n1 c1, n1, hc (hts (ws.map tl) m Df), w1.heap.size, w2.heap.size⟩) (c := ⟨39, 2, .slice o2 n2 c2, n2, hc Hh2, w2.heap.size, bh⟩) (d := ⟨39, 2, .slice p9 l9 q9, l9, ys3, w8.heap.size, w9.heap.size⟩) ⟨rfl, rfl, rfl, rfl⟩ ⟨rfl, rfl, rfl, rfl⟩ (by dsimp only <;> omega) (by dsimp only <;> omega) (by dsimp only <;> omega) (by dsimp only <;> omega) (by dsimp only <;> omega) (by dsimp only <;> omega)
  have FO := famO (B := N) Mw.a (by simp) (by simp) (by simp) (by simp) (by simp) (by simp) (a := ⟨5, 1, .slice p0 l0 q0, l0, (ik .u8 R3).toList, w6.heap.size, w7.heap.size⟩) (b := ⟨5, 1, .slice p1 l1 q1, l1, xs1, w8.heap.size, w9.heap.size⟩) (c := ⟨5, 1, .slice p2 l2 q2, l2, xs2, wb.heap.size, wc.heap.size⟩) (d := ⟨5, 1, .slice p3 l3 q3, l3, xs3, wd.heap.size, we.heap.size⟩) (e := ⟨5, 1, .slice p4 l4 q4, l4, (ik .u8 Q3).toList, wf.heap.size, wg.heap.size⟩) (f := ⟨5, 1, .slice p5 l5 q5, l5, xs5, wh.heap.size, wi.heap.size⟩) ⟨rfl, rfl, rfl, rfl, rfl, rfl⟩ ⟨rfl, rfl, rfl, rfl, rfl, rfl⟩ (by dsimp only <;> omega) (by dsimp only <;> omega) (by dsimp only <;> omega) (by dsimp only <;> omega) (by dsimp only <;> omega) (by dsimp only <;> omega) (by dsimp only <;> omega) (by dsimp only <;> omega) (by dsimp only <;> omega) (by dsimp only <;> omega)
  have AH : Arr bh 50 4 (fun i => (pkE4 ⟨39, 2, .slice o0 n0 c0, n0, hc (hts (ws.map tl) m D), N, w1.heap.size⟩ ⟨39, 2, .slice o1 n1 c1, n1, hc (hts (ws.map tl) m Df), w1.heap.size, w2.heap.size⟩ ⟨39, 2, .slice o2 n2 c2, n2, hc Hh2, w2.heap.size, bh⟩ ⟨39, 2, .slice p9 l9 q9, l9, ys3, w8.heap.size, w9.heap.size⟩ i).v) wm := HAwm.out.cong (all4 rfl rfl rfl rfl)
  have AO : Arr bo 51 6 (fun i => (pkE6 ⟨5, 1, .slice p0 l0 q0, l0, (ik .u8 R3).toList, w6.heap.size, w7.heap.size⟩ ⟨5, 1, .slice p1 l1 q1, l1, xs1, w8.heap.size, w9.heap.size⟩ ⟨5, 1, .slice p2 l2 q2, l2, xs2, wb.heap.size, wc.heap.size⟩ ⟨5, 1, .slice p3 l3 q3, l3, xs3, wd.heap.size, we.heap.size⟩ ⟨5, 1, .slice p4 l4 q4, l4, (ik .u8 Q3).toList, wf.heap.size, wg.heap.size⟩ ⟨5, 1, .slice p5 l5 q5, l5, xs5, wh.heap.size, wi.heap.size⟩ i).v) wm := HOwm.out.cong (all6 rfl rfl rfl rfl rfl rfl)
  have hO : OutC N bo wm := ⟨_, _, _, AO, FO, all6 z4.2.2.2 z5.2.2.1 z6.2.2 z7.2.2 z8.2.2 z9.2.2⟩
  exact fr25 W _ bh wm.heap.size bo N _ _ hC (fun Z hZ => HS.out Z (Mw.bl.trans ((hb.mono (Nat.le_trans n5 hnz)).trans (hZ.mono n5)))) (Nat.le_trans hnz hb.size) hnz (Nat.ne_of_lt AH.lt) ⟨⟨_, FH.below hb (Nat.le_refl _), fun j hj => by omega, fun q hq => by omega⟩, AH.keep (hb.block bh AH.lt), ⟨fun _ => .slice none 0 0, _, heap_alloc_new wm _, nil4⟩, hO.keep hb.size (fun g cur t hc _ => hb.block g (Array.getElem?_eq_some_iff.1 hc).1), Below.refl _ _⟩ (all4 HN0.out.1 HN1.out.1 HN2.out.1 z5.2.2.2)
end
end Go.Proofs.Ytceaklefdahfkab
