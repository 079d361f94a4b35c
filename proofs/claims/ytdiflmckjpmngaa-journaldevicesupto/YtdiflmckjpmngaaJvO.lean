/- JournalSafe: the round's end. -/
import Derived.Test.YtdiflmckjpmngaaJvM
import Derived.Test.YtdiflmckjpmngaaJvN
import Derived.Laws.IdiomStrings
namespace Go.Proofs.Ytdiflmckjpmngaa
open Go.RowKit
def mkS (l : List Nat) : ByteArray := ⟨(l.map UInt8.ofNat).toArray⟩
theorem mkS_size (l : List Nat) : (mkS l).size = l.length := by simp [mkS, ByteArray.size]
theorem mkS_take (l : List Nat) (n : Nat) : (mkS l).extract 0 n = mkS (l.take n) := by
  apply ByteArray.ext
  simp [mkS, ByteArray.data_extract, List.map_take]
def cvS (v : Value) : Sem Value := convert 25 9 v
theorem toCvS (v : Value) : convert 25 9 v = cvS v := rfl
theorem run_cvS (w : World) (g cap : Nat) (l : List Nat) (hb : Byt l) (hr : w.heap[g]? = some (.cells (bs l).toArray 5 (0, 0))) : (cvS (.slice (some ⟨g, 0, none⟩) l.length cap)).run Try.prog w = .ok (.string (mkS l)) w := by
  have := run_convert_bytes_back (P := Try.prog) w 25 9 5 ⟨g, 0, none⟩ cap (l.map UInt8.ofNat) Try.underlying25 Try.underlying5 Try.underlying9 (fun j hj => by
    have hj2 : j < l.length := by simpa using hj
    rw [Addr.add_mid, Nat.zero_add, cell_of_row _ _ _ _ _ _ hr]
    have hx : l[j] < 256 := hb _ (List.getElem_mem hj2)
    simp [bs, hj2, Nat.mod_eq_of_lt hx])
  rw [List.length_map] at this
  exact this
/-- A disk in a variable. -/
def Dk4 (Y : World) (b : Nat) (x : Sp) : Prop := ∃ g0 g1, Y.heap[b]? = some (.cells (dkA g0 x.1.1.length g1 x.2.1.length) 28 (0, 0)) ∧ Y.heap[g0]? = some (.cells (bs x.1.1).toArray 5 (0, 0)) ∧ Y.heap[g1]? = some (.cells (bs x.2.1).toArray 5 (0, 0)) ∧ Byt x.1.1 ∧ Byt x.2.1
theorem Dk4.below {Y Y' : World} {b : Nat} {x : Sp} (h : Dk4 Y b x) (hb : Below Y.heap.size Y Y') : Dk4 Y' b x := by
  obtain ⟨g0, g1, h1, h2, h3, h4⟩ := h
  exact ⟨g0, g1, (hb.block _ (Array.getElem?_eq_some_iff.1 h1).1).trans h1, (hb.block _ (Array.getElem?_eq_some_iff.1 h2).1).trans h2, (hb.block _ (Array.getElem?_eq_some_iff.1 h3).1).trans h3, h4⟩
/-- One file of the four disks. -/
theorem Dk4.at0 {Y : World} {b : Nat} {x : Sp} (h : Dk4 Y b x) : ∃ g n S, Y.cell? ⟨b, 0, none⟩ = some (.slice (some ⟨g, 0, none⟩) n n) ∧ (cvS (.slice (some ⟨g, 0, none⟩) n n)).run Try.prog Y = .ok (.string S) Y ∧ n = x.1.1.length ∧ S = mkS x.1.1 := by
  obtain ⟨g0, g1, h1, h2, h3, h4, h5⟩ := h
  exact ⟨g0, _, _, by rw [cell_of_row _ _ _ _ _ _ h1]; rfl, run_cvS Y g0 _ _ h4 h2, rfl, rfl⟩
theorem Dk4.at1 {Y : World} {b : Nat} {x : Sp} (h : Dk4 Y b x) : ∃ g n S, Y.cell? ⟨b, 1, none⟩ = some (.slice (some ⟨g, 0, none⟩) n n) ∧ (cvS (.slice (some ⟨g, 0, none⟩) n n)).run Try.prog Y = .ok (.string S) Y ∧ n = x.2.1.length ∧ S = mkS x.2.1 := by
  obtain ⟨g0, g1, h1, h2, h3, h4, h5⟩ := h
  exact ⟨g1, _, _, by rw [cell_of_row _ _ _ _ _ _ h1]; rfl, run_cvS Y g1 _ _ h5 h3, rfl, rfl⟩
/-- What the law asks of one file. -/
def Cnd (a l m n : List Nat) (s : Nat) : Prop := ∃ i j k, n = a.take i ∧ l = a.take j ∧ m = a.take k ∧ i = s ∧ i ≤ j ∧ j ≤ k ∧ k ≤ a.length
theorem Cnd.str {a l m n : List Nat} {s : Nat} (h : Cnd a l m n s) {Sa Sl Sm Sn : ByteArray} (ea : Sa = mkS a) (el : Sl = mkS l) (em : Sm = mkS m) (en : Sn = mkS n) : ∃ j k z, Sn.size = s ∧ Sl.size = j ∧ Sm.size = k ∧ Sa.size = z ∧ s ≤ j ∧ j ≤ k ∧ k ≤ z ∧ Sa.extract 0 s = Sn ∧ Sa.extract 0 j = Sl ∧ Sa.extract 0 k = Sm := by
  obtain ⟨i, j, k, rfl, rfl, rfl, rfl, h1, h2, h3⟩ := h
  subst ea el em en
  have q1 : (a.take i).length = i := by rw [List.length_take]; omega
  have q2 : (a.take j).length = j := by rw [List.length_take]; omega
  have q3 : (a.take k).length = k := by rw [List.length_take]; omega
  exact ⟨j, k, a.length, by rw [mkS_size, q1], by rw [mkS_size, q2], by rw [mkS_size, q3], mkS_size _, h1, h2, h3, mkS_take _ _, mkS_take _ _, mkS_take _ _⟩
def headR : Code → Option Nat
  | .region id _ _ => some id
  | .seq a _ => headR a
  | .scope c => headR c
  | .block _ c => headR c
  | .loop c => headR c
  | _ => none
def fromR (n : Nat) : Code → Option (Bool × Code)
  | .seq a b => if headR a = some n then some (false, .seq a b) else match fromR n a with
    | some (false, c) => some (false, .seq c b)
    | some (true, c) => some (true, c)
    | none => fromR n b
  | .scope c => fromR n c
  | .block _ c => (fromR n c).map fun p => (true, p.2)
  | .loop c => (fromR n c).map fun p => (true, p.2)
  | .cond _ a b => match fromR n a with
    | some p => some (true, p.2)
    | none => (fromR n b).map fun p => (true, p.2)
  | _ => none
theorem and_ex255 (x : Int) : ∃ r : Nat, bits BinOp.and IntKind.i64 x 255 = (r : Int) ∧ r ≤ 255 := by
  have h : (BitVec.ofInt 64 x &&& 255#64).toNat ≤ 255 := by rw [BitVec.toNat_and]; exact Nat.and_le_right
  refine ⟨(BitVec.ofInt 64 x &&& 255#64).toNat, ?_, h⟩
  unfold bits
  simp only [IntKind.bits]
  show IntKind.i64.wrap ((BitVec.ofInt 64 x &&& 255#64).toNat : Int) = _
  generalize (BitVec.ofInt 64 x &&& 255#64).toNat = r at h
  rw [IntKind.wrap_i64]
  omega
theorem and_ex65535 (x : Int) : ∃ r : Nat, bits BinOp.and IntKind.i64 x 65535 = (r : Int) ∧ r ≤ 65535 := by
  have h : (BitVec.ofInt 64 x &&& 65535#64).toNat ≤ 65535 := by rw [BitVec.toNat_and]; exact Nat.and_le_right
  refine ⟨(BitVec.ofInt 64 x &&& 65535#64).toNat, ?_, h⟩
  unfold bits
  simp only [IntKind.bits]
  show IntKind.i64.wrap ((BitVec.ofInt 64 x &&& 65535#64).toNat : Int) = _
  generalize (BitVec.ofInt 64 x &&& 65535#64).toNat = r at h
  rw [IntKind.wrap_i64]
  omega
theorem and_ex1 (x : Int) : ∃ r : Nat, bits BinOp.and IntKind.i64 x 1 = (r : Int) ∧ r ≤ 1 := by
  have h : (BitVec.ofInt 64 x &&& 1#64).toNat ≤ 1 := by rw [BitVec.toNat_and]; exact Nat.and_le_right
  refine ⟨(BitVec.ofInt 64 x &&& 1#64).toNat, ?_, h⟩
  unfold bits
  simp only [IntKind.bits]
  show IntKind.i64.wrap ((BitVec.ofInt 64 x &&& 1#64).toNat : Int) = _
  generalize (BitVec.ofInt 64 x &&& 1#64).toNat = r at h
  rw [IntKind.wrap_i64]
  omega
theorem dk4_mk {W X : World} {x : Sp} {c : Array Value} (h : DkP W x c X) (hb : Byt x.1.1 ∧ Byt x.2.1) : Dk4 (X.alloc (.cells c 28)) X.heap.size x := by
  obtain ⟨g0, g1, rfl, h2, h3, _⟩ := h
  exact ⟨g0, g1, heap_alloc_new _ _, (heap_alloc_old _ _ (h := (Array.getElem?_eq_some_iff.1 h2).1)).trans h2, (heap_alloc_old _ _ (h := (Array.getElem?_eq_some_iff.1 h3).1)).trans h3, hb⟩
theorem dk_form {W X : World} {x : Sp} {c : Array Value} (h : DkP W x c X) : ∃ g0 n0 g1 n1, c = #[.slice (some ⟨g0, 0, none⟩) n0 n0, .slice (some ⟨g1, 0, none⟩) n1 n1] ∧ n0 = x.1.1.length ∧ n1 = x.2.1.length := by
  obtain ⟨g0, g1, rfl, _⟩ := h
  exact ⟨g0, _, g1, _, rfl, rfl, rfl⟩
theorem Dv.cur [Inhabited HoleT] {lo v : Nat} {W : World} {lv : Value} {f : Array Value} {ms : List (Array Value)} {sp : List Sp} (h : Dv lo W v lv f ms sp) {x : Sp} (hx : sp[ms.length]? = some x) : Byt x.1.1 ∧ Byt x.2.1 ∧ x.1.2 ≤ x.1.1.length ∧ x.2.2 ≤ x.2.1.length := by
  obtain ⟨m, hm⟩ : ∃ m, (f :: ms)[ms.length]? = some m := ⟨_, List.getElem?_eq_getElem (by simp)⟩
  obtain ⟨p0, p1, -, ⟨_, -, h1, h2, _⟩, ⟨_, -, h3, h4, _⟩⟩ := h.each _ m x hm hx
  exact ⟨h1.byt, h3.byt, h2, h4⟩
theorem byt_cut {x : List Nat × Nat} (h : Byt x.1) (k : Nat) : Byt (cutP x k).1 := fun b hb => h b (List.mem_of_mem_take hb)
theorem cnd_cut (x : List Nat × Nat) (hs : x.2 ≤ x.1.length) (k k' : Nat) (h : k ≤ k') : Cnd x.1 (cutP x k).1 (cutP x k').1 (cutP x 0).1 x.2 :=
  ⟨keepN x 0, keepN x k, keepN x k', rfl, rfl, rfl, by simp [keepN], by unfold keepN; omega, by unfold keepN; omega, by unfold keepN; omega⟩
theorem cut_all (x : List Nat × Nat) (hs : x.2 ≤ x.1.length) (k : Nat) (h : x.1.length ≤ k) : (cutP x k).1 = x.1 := by
  show x.1.take (keepN x k) = x.1
  rw [List.take_of_length_le (by unfold keepN; omega)]
noncomputable def tail28 : Code := (((Try.f3.body.bind (fromR 28)).map (·.2)).getD .skip)
section
attribute [local go_sem ↓] toCvS
set_option maxRecDepth 100000 in
set_option maxHeartbeats 6400000 in
theorem tail_any [Inhabited HoleT] (Q : Exit → Act → World → Prop) (kp : Int) (v sb zb lo : Nat) (lv : Value) (f : Array Value) (ms : List (Array Value)) (sp : List Sp) (x : Sp) (w : World) {v0 v2 v3 v4 v8 v9 v10 v11 v13 v14 v15 v16 v17 v18 v19 v20 v21 v22 v23 v24 v25 v26 v27 v28 v29 v30 v31 v32 v33 v34 v35 v36 v37 v38 v39 v40 v41 v42 v43 v44 v45 v46 v47 v48 v49 v50 v51 v52 v53 v54 v55 v56 v57 v58 v59 v60 v61 v62 v63 v64 v65 v66 v67 v68 v69 v70 v71 v72 v73 v74 v75 v76 v77 v78 v79 v80 v81 v82 v83 v84 v85 v86 v87 v88 v89 v90 v91 v92 v93 v94 v95 v96 v97 v98 v99 v100 v101 v102 v103 v104 v105 v106 v107 v108 v109 v110 v111 v112 v113 v114 v115 v116 v117 v118 v119 v120 v121 v122 v123 v124 v125 v126 v127 v128 v129 v130 v131 v132 v133 v134 v135 v136 v137 v138 v139 v140 v141 v142 v143 v144 v145 v146 v147 v148 v149 v150 v151 v152 v153 v154 v155 v156 v157 v158 v159 v160 v161 v162 v163 v164 v165 v166 v167 v168 v169 v170 v171 v172 v173 v174 v175 v176 v177 v178 v179 v180 v181 v182 v183 v184 v185 v186 v187 v188 v189 v190 v191 v192 v193 v194 v195 v196 v197 v198 v199 v200 v201 v202 v203 v204 v205 v206 v207 v208 v209 v210 v211 v212 v213 v214 v215 v216 v217 v218 v219 v220 v221 v222 v223 v224 v225 v226 v227 v228 v229 v230 v231 v232 v233 v234 v235 v236 v237 v238 v239 v240 v241 v242 v243 v244 v245 v246 v247 v248 v249 v250 v251 v252 v253 v254 v255 v256 v257 v258 v259 v260 v261 v262 v263 v264 v265 v266 v267 v268 : Value}
    (HD : Hid (Dv lo w v lv f ms sp ∧ sp[ms.length]? = some x ∧ ms.length < 9223372036854775807 ∧ (Byt x.1.1 ∧ Byt x.2.1) ∧ x.1.2 ≤ x.1.1.length ∧ x.2.2 ≤ x.2.1.length ∧ x.2.1.length ≤ 1099511627776))
    (HS : Hid (w.heap[sb]? = some (.cells #[.int .i64 (x.1.2 : Int), .int .i64 (x.2.2 : Int)] 33 (0, 0)) ∧ w.heap[zb]? = some (.cells #[.int .i64 (x.1.1.length : Int), .int .i64 (x.2.1.length : Int)] 33 (0, 0)))) (HQ : Hid (∀ (u4 u12 u14 u15 u16 u17 u18 u19 u20 u21 u22 u23 u24 u25 u123 u124 u125 u126 u127 u128 u129 u130 u131 u132 u133 u134 u135 u136 u137 u138 u139 u140 u141 u142 u143 u144 u145 u146 u147 u148 u149 u150 u151 u152 u153 u154 u155 u156 u157 u158 u159 u160 u161 u162 u163 u164 u165 u166 u167 u168 u169 u170 u171 u172 u173 u174 u175 u176 u177 u178 u179 u180 u181 u182 u183 u184 u185 u186 u187 u188 u189 u190 u191 u192 u193 u194 u195 u196 u197 u198 u199 u200 u201 u202 u203 u204 u205 u206 u207 u208 u209 u210 u211 u212 u213 u214 u215 u216 u217 u218 u219 u220 u221 u222 u223 u224 u225 u226 u227 u228 u229 u230 u231 u232 u233 u234 u235 u236 u237 u238 u239 u240 u241 u242 u243 u244 u245 u246 u247 u248 u249 u250 u251 u252 u253 u254 u255 u256 u257 u258 u259 u260 u261 u262 u263 u264 u265 u266 u267 u268 : Value) (w' : World), Below w.heap.size w w' → Q .normal ⟨#[v0, .int .i64 kp, v2, v3, u4, .pointer (some ⟨v, 0, none⟩), .pointer (some ⟨sb, 0, none⟩), .pointer (some ⟨zb, 0, none⟩), v8, v9, v10, v11, u12, v13, u14, u15, u16, u17, u18, u19, u20, u21, u22, u23, u24, u25, v26, v27, v28, v29, v30, v31, v32, v33, v34, v35, v36, v37, v38, v39, v40, v41, v42, v43, v44, v45, v46, v47, v48, v49, v50, v51, v52, v53, v54, v55, v56, v57, v58, v59, v60, v61, v62, v63, v64, v65, v66, v67, v68, v69, v70, v71, v72, v73, v74, v75, v76, v77, v78, v79, v80, v81, v82, v83, v84, v85, v86, v87, v88, v89, v90, v91, v92, v93, v94, v95, v96, v97, v98, v99, v100, v101, v102, v103, v104, v105, v106, v107, v108, v109, v110, v111, v112, v113, v114, v115, v116, v117, v118, v119, v120, v121, v122, u123, u124, u125, u126, u127, u128, u129, u130, u131, u132, u133, u134, u135, u136, u137, u138, u139, u140, u141, u142, u143, u144, u145, u146, u147, u148, u149, u150, u151, u152, u153, u154, u155, u156, u157, u158, u159, u160, u161, u162, u163, u164, u165, u166, u167, u168, u169, u170, u171, u172, u173, u174, u175, u176, u177, u178, u179, u180, u181, u182, u183, u184, u185, u186, u187, u188, u189, u190, u191, u192, u193, u194, u195, u196, u197, u198, u199, u200, u201, u202, u203, u204, u205, u206, u207, u208, u209, u210, u211, u212, u213, u214, u215, u216, u217, u218, u219, u220, u221, u222, u223, u224, u225, u226, u227, u228, u229, u230, u231, u232, u233, u234, u235, u236, u237, u238, u239, u240, u241, u242, u243, u244, u245, u246, u247, u248, u249, u250, u251, u252, u253, u254, u255, u256, u257, u258, u259, u260, u261, u262, u263, u264, u265, u266, u267, u268], []⟩ w')) :
    Code.wp Try.prog tail28 Q ⟨#[v0, .int .i64 kp, v2, v3, v4, .pointer (some ⟨v, 0, none⟩), .pointer (some ⟨sb, 0, none⟩), .pointer (some ⟨zb, 0, none⟩), v8, v9, v10, v11, .int .i64 0, v13, v14, v15, v16, v17, v18, v19, v20, v21, v22, v23, v24, v25, v26, v27, v28, v29, v30, v31, v32, v33, v34, v35, v36, v37, v38, v39, v40, v41, v42, v43, v44, v45, v46, v47, v48, v49, v50, v51, v52, v53, v54, v55, v56, v57, v58, v59, v60, v61, v62, v63, v64, v65, v66, v67, v68, v69, v70, v71, v72, v73, v74, v75, v76, v77, v78, v79, v80, v81, v82, v83, v84, v85, v86, v87, v88, v89, v90, v91, v92, v93, v94, v95, v96, v97, v98, v99, v100, v101, v102, v103, v104, v105, v106, v107, v108, v109, v110, v111, v112, v113, v114, v115, v116, v117, v118, v119, v120, v121, v122, v123, v124, v125, v126, v127, v128, v129, v130, v131, v132, v133, v134, v135, v136, v137, v138, v139, v140, v141, v142, v143, v144, v145, v146, v147, v148, v149, v150, v151, v152, v153, v154, v155, v156, v157, v158, v159, v160, v161, v162, v163, v164, v165, v166, v167, v168, v169, v170, v171, v172, v173, v174, v175, v176, v177, v178, v179, v180, v181, v182, v183, v184, v185, v186, v187, v188, v189, v190, v191, v192, v193, v194, v195, v196, v197, v198, v199, v200, v201, v202, v203, v204, v205, v206, v207, v208, v209, v210, v211, v212, v213, v214, v215, v216, v217, v218, v219, v220, v221, v222, v223, v224, v225, v226, v227, v228, v229, v230, v231, v232, v233, v234, v235, v236, v237, v238, v239, v240, v241, v242, v243, v244, v245, v246, v247, v248, v249, v250, v251, v252, v253, v254, v255, v256, v257, v258, v259, v260, v261, v262, v263, v264, v265, v266, v267, v268], []⟩ w := by
  obtain ⟨K, hK, hKl⟩ := and_ex255 kp
  have HK : Hid (True ∧ K ≤ 255) := ⟨trivial, hKl⟩
  have C1 : Hid _ := Disk_any HD.out.1 x HD.out.2.1 HD.out.2.2.1
  have w1 : IntKind.i64.wrap ((K : Int) + 1) = ((K + 1 : Nat) : Int) := by rw [IntKind.wrap_i64]; omega
  clear hKl
  conv => arg 2; whnf
  go_wp2_with fail
  refine Calls.mono C1.out ?_
  rintro e X1 ⟨c1, rfl, hD1⟩
  have hK1 := dk4_mk hD1 HD.out.2.2.2.1
  have hbX1 := hD1.bel
  obtain ⟨ga1, na1, gb1, nb1, rfl, ea, eb⟩ := dk_form hD1
  obtain ⟨A1, hA1⟩ : ∃ A, X1.alloc (.cells #[.slice (some ⟨ga1, 0, none⟩) na1 na1, .slice (some ⟨gb1, 0, none⟩) nb1 nb1] 28) = A := ⟨_, rfl⟩
  have bb1 : Below w.heap.size w A1 := by rw [← hA1]; exact hbX1.alloc hbX1.size _
  have zr : A1.heap[zb]? = some (.cells #[.int .i64 (na1 : Int), .int .i64 (nb1 : Int)] 33 (0, 0)) := by rw [ea, eb]; exact (bb1.block _ (Array.getElem?_eq_some_iff.1 HS.out.2).1).trans HS.out.2
  have z0 : A1.cell? ⟨zb, 0, none⟩ = some (.int .i64 (na1 : Int)) := by rw [cell_of_row _ _ _ _ _ _ zr]; rfl
  have z1 : A1.cell? ⟨zb, 1, none⟩ = some (.int .i64 (nb1 : Int)) := by rw [cell_of_row _ _ _ _ _ _ zr]; rfl
  rw [hA1] at hK1
  have HK1 : Hid (Dk4 A1 X1.heap.size x) := hK1
  have HA1 : Hid (X1.alloc (.cells #[.slice (some ⟨ga1, 0, none⟩) na1 na1, .slice (some ⟨gb1, 0, none⟩) nb1 nb1] 28) = A1) := hA1
  have HB1 : Hid (Below w.heap.size w A1) := bb1
  rw [← hA1] at z0 z1
  clear hD1 hbX1 hA1 bb1 hK1 ea eb zr C1
  go_wp2_with fail
  rw [HA1.out]
  clear z0 z1
  have C2a : Hid _ := count_any (HD.out.1.below HB1.out)
  have C2b : Hid _ := At_good (HD.out.1.below HB1.out) ms.length x HD.out.2.1 HD.out.2.2.1 K K (by have := HK.out.2; omega) (by have := HK.out.2; omega)
  refine Calls.mono C2a.out ?_
  rintro e w' ⟨rfl, hw⟩
  have hw2 := hw.symm
  subst hw2
  go_wp2_with fail
  refine Calls.mono C2b.out ?_
  rintro e X2 ⟨c2, rfl, hD2⟩
  have hK2 := dk4_mk hD2 ⟨byt_cut HD.out.2.2.2.1.1 _, byt_cut HD.out.2.2.2.1.2 _⟩
  have hbX2 := hD2.bel
  obtain ⟨ga2, na2, gb2, nb2, rfl, -, -⟩ := dk_form hD2
  obtain ⟨A2, hA2⟩ : ∃ A, X2.alloc (.cells #[.slice (some ⟨ga2, 0, none⟩) na2 na2, .slice (some ⟨gb2, 0, none⟩) nb2 nb2] 28) = A := ⟨_, rfl⟩
  have bb2 : Below A1.heap.size A1 A2 := by rw [← hA2]; exact hbX2.alloc hbX2.size _
  rw [hA2] at hK2
  have HK2 : Hid (Dk4 A2 X2.heap.size (cutP x.1 (K), cutP x.2 (K))) := hK2
  have HA2 : Hid (X2.alloc (.cells #[.slice (some ⟨ga2, 0, none⟩) na2 na2, .slice (some ⟨gb2, 0, none⟩) nb2 nb2] 28) = A2) := hA2
  have HBB2 : Hid (Below A1.heap.size A1 A2) := bb2
  have HB2 : Hid (Below w.heap.size w A2) := HB1.out.trans (bb2.mono HB1.out.size)
  clear hD2 hbX2 hA2 bb2 hK2 C2a C2b
  go_wp2_with fail
  rw [HA2.out]
  have C3a : Hid _ := count_any (HD.out.1.below HB2.out)
  have C3b : Hid _ := At_good (HD.out.1.below HB2.out) ms.length x HD.out.2.1 HD.out.2.2.1 (K + 1) 1099511627776 (by have := HK.out.2; omega) (by have := HK.out.2; omega)
  refine Calls.mono C3a.out ?_
  rintro e w' ⟨rfl, hw⟩
  have hw2 := hw.symm
  subst hw2
  go_wp2_with fail
  refine Calls.mono C3b.out ?_
  rintro e X3 ⟨c3, rfl, hD3⟩
  have hK3 := dk4_mk hD3 ⟨byt_cut HD.out.2.2.2.1.1 _, byt_cut HD.out.2.2.2.1.2 _⟩
  have hbX3 := hD3.bel
  obtain ⟨ga3, na3, gb3, nb3, rfl, -, -⟩ := dk_form hD3
  obtain ⟨A3, hA3⟩ : ∃ A, X3.alloc (.cells #[.slice (some ⟨ga3, 0, none⟩) na3 na3, .slice (some ⟨gb3, 0, none⟩) nb3 nb3] 28) = A := ⟨_, rfl⟩
  have bb3 : Below A2.heap.size A2 A3 := by rw [← hA3]; exact hbX3.alloc hbX3.size _
  rw [hA3] at hK3
  have HK3 : Hid (Dk4 A3 X3.heap.size (cutP x.1 ((K + 1)), cutP x.2 (1099511627776))) := hK3
  have HA3 : Hid (X3.alloc (.cells #[.slice (some ⟨ga3, 0, none⟩) na3 na3, .slice (some ⟨gb3, 0, none⟩) nb3 nb3] 28) = A3) := hA3
  have HBB3 : Hid (Below A2.heap.size A2 A3) := bb3
  have HB3 : Hid (Below w.heap.size w A3) := HB2.out.trans (bb3.mono HB2.out.size)
  clear hD3 hbX3 hA3 bb3 hK3 C3a C3b
  go_wp2_with fail
  rw [HA3.out]
  have C4a : Hid _ := count_any (HD.out.1.below HB3.out)
  have C4b : Hid _ := At_good (HD.out.1.below HB3.out) ms.length x HD.out.2.1 HD.out.2.2.1 0 0 (by have := HK.out.2; omega) (by have := HK.out.2; omega)
  refine Calls.mono C4a.out ?_
  rintro e w' ⟨rfl, hw⟩
  have hw2 := hw.symm
  subst hw2
  go_wp2_with fail
  refine Calls.mono C4b.out ?_
  rintro e X4 ⟨c4, rfl, hD4⟩
  have hK4 := dk4_mk hD4 ⟨byt_cut HD.out.2.2.2.1.1 _, byt_cut HD.out.2.2.2.1.2 _⟩
  have hbX4 := hD4.bel
  obtain ⟨ga4, na4, gb4, nb4, rfl, -, -⟩ := dk_form hD4
  obtain ⟨A4, hA4⟩ : ∃ A, X4.alloc (.cells #[.slice (some ⟨ga4, 0, none⟩) na4 na4, .slice (some ⟨gb4, 0, none⟩) nb4 nb4] 28) = A := ⟨_, rfl⟩
  have bb4 : Below A3.heap.size A3 A4 := by rw [← hA4]; exact hbX4.alloc hbX4.size _
  rw [hA4] at hK4
  have HK4 : Hid (Dk4 A4 X4.heap.size (cutP x.1 (0), cutP x.2 (0))) := hK4
  have HA4 : Hid (X4.alloc (.cells #[.slice (some ⟨ga4, 0, none⟩) na4 na4, .slice (some ⟨gb4, 0, none⟩) nb4 nb4] 28) = A4) := hA4
  have HBB4 : Hid (Below A3.heap.size A3 A4) := bb4
  have HB4 : Hid (Below w.heap.size w A4) := HB3.out.trans (bb4.mono HB3.out.size)
  clear hD4 hbX4 hA4 bb4 hK4 C4a C4b
  go_wp2_with fail
  rw [HA4.out]
  have H : Hid (Dk4 A4 X1.heap.size x ∧ Dk4 A4 X2.heap.size (cutP x.1 K, cutP x.2 K) ∧ Dk4 A4 X3.heap.size (cutP x.1 (K + 1), cutP x.2 1099511627776) ∧ Dk4 A4 X4.heap.size (cutP x.1 0, cutP x.2 0) ∧ Cnd x.1.1 (cutP x.1 K).1 (cutP x.1 (K + 1)).1 (cutP x.1 0).1 x.1.2 ∧ Cnd x.2.1 (cutP x.2 K).1 (cutP x.2 1099511627776).1 (cutP x.2 0).1 x.2.2) := by
    have b34 := HBB4.out
    have b24 := HBB3.out.trans (b34.mono HBB3.out.size)
    have b14 := HBB2.out.trans (b24.mono HBB2.out.size)
    exact ⟨HK1.out.below b14, HK2.out.below b24, HK3.out.below b34, HK4.out, cnd_cut _ HD.out.2.2.2.2.1 _ _ (by omega), cnd_cut _ HD.out.2.2.2.2.2.1 _ _ (by have := HK.out.2; omega)⟩
  have HM : Hid ((cutP x.2 1099511627776).1 = x.2.1) := cut_all _ HD.out.2.2.2.2.2.1 _ HD.out.2.2.2.2.2.2
  have HSS : Hid (A4.heap[sb]? = some (.cells #[.int .i64 (x.1.2 : Int), .int .i64 (x.2.2 : Int)] 33 (0, 0))) := (HB4.out.block _ (Array.getElem?_eq_some_iff.1 HS.out.1).1).trans HS.out.1
  obtain ⟨s0, hs0⟩ : ∃ s, x.1.2 = s := ⟨_, rfl⟩
  obtain ⟨s1, hs1⟩ : ∃ s, x.2.2 = s := ⟨_, rfl⟩
  rw [hs0, hs1] at HSS
  have H5 : Hid (Cnd x.1.1 (cutP x.1 K).1 (cutP x.1 (K + 1)).1 (cutP x.1 0).1 s0 ∧ Cnd x.2.1 (cutP x.2 K).1 (cutP x.2 1099511627776).1 (cutP x.2 0).1 s1) := by rw [← hs0, ← hs1]; exact H.out.2.2.2.2
  clear hs0 hs1 hK w1
  go_loopw [21] (fun iv wr => (iv = .int .i64 0 ∧ wr = A4) ∨ (iv = .int .i64 1 ∧ wr = A4) ∨ (iv = .int .i64 2 ∧ wr = A4)) (fun iv _ => 2 - (intOf iv).toNat)
  case atStart => exact .inl ⟨rfl, rfl⟩
  case round =>
    have hwr : A4 = wr := by rcases hrel with ⟨-, h⟩ | ⟨-, h⟩ | ⟨-, h⟩ <;> exact h.symm
    subst hwr
    rcases hrel with ⟨rfl, -⟩ | ⟨rfl, -⟩ | ⟨rfl, -⟩
    · obtain ⟨g14, n14, S14, p14, q14, -, e14⟩ := H.out.1.at0
      obtain ⟨g16, n16, S16, p16, q16, -, e16⟩ := H.out.2.1.at0
      obtain ⟨g17, n17, S17, p17, q17, -, e17⟩ := H.out.2.2.1.at0
      obtain ⟨g19, n19, S19, p19, q19, -, e19⟩ := H.out.2.2.2.1.at0
      obtain ⟨j, k, z, z19, z16, z17, z14, l1, l2, l3, x19, x16, x17⟩ := H5.out.1.str e14 e16 e17 e19
      have psb : A4.cell? ⟨sb, 0, none⟩ = some (.int .i64 (s0 : Int)) := by rw [cell_of_row _ _ _ _ _ _ HSS.out]; rfl
      clear e14 e16 e17 e19
      have a1 : ¬ (k < j) := by omega
      have a2 : ¬ (z < k) := by omega
      have a3 : ¬ (j < s0) := by omega
      have b1 : (s0 : Int) ≤ (z : Int) := by omega
      have b2 : (j : Int) ≤ (z : Int) := by omega
      have b3 : (k : Int) ≤ (z : Int) := by omega
      have c1 : s0 ≤ z := by omega
      have c2 : j ≤ z := by omega
      go_wp2_with fail
      go_roundw
      case rel => exact .inr (.inl ⟨by go_num, trivial⟩)
      case measure => simp [intOf]
    · obtain ⟨g14, n14, S14, p14, q14, -, e14⟩ := H.out.1.at1
      obtain ⟨g16, n16, S16, p16, q16, -, e16⟩ := H.out.2.1.at1
      obtain ⟨g17, n17, S17, p17, q17, -, e17⟩ := H.out.2.2.1.at1
      obtain ⟨g19, n19, S19, p19, q19, -, e19⟩ := H.out.2.2.2.1.at1
      obtain ⟨j, k, z, z19, z16, z17, z14, l1, l2, l3, x19, x16, x17⟩ := H5.out.2.str e14 e16 e17 e19
      have psb : A4.cell? ⟨sb, 1, none⟩ = some (.int .i64 (s1 : Int)) := by rw [cell_of_row _ _ _ _ _ _ HSS.out]; rfl
      clear e14 e16 e17 e19
      have a1 : ¬ (k < j) := by omega
      have a2 : ¬ (z < k) := by omega
      have a3 : ¬ (j < s1) := by omega
      have b1 : (s1 : Int) ≤ (z : Int) := by omega
      have b2 : (j : Int) ≤ (z : Int) := by omega
      have b3 : (k : Int) ≤ (z : Int) := by omega
      have c1 : s1 ≤ z := by omega
      have c2 : j ≤ z := by omega
      go_wp2_with fail
      go_roundw
      case rel => exact .inr (.inr ⟨by go_num, trivial⟩)
      case measure => simp [intOf]
    · obtain ⟨g14, n14, S14, p14, q14, -, e14⟩ := H.out.1.at1
      obtain ⟨g17, n17, S17, p17, q17, -, e17⟩ := H.out.2.2.1.at1
      obtain rfl : S17 = S14 := by rw [e17, e14]; show mkS (cutP x.2 1099511627776).1 = _; rw [HM.out]
      clear e14 e17
      go_wp2_with fail
      exact HQ.out _ _ _ _ _ _ _ _ _ _ _ _ _ _ _ _ _ _ _ _ _ _ _ _ _ _ _ _ _ _ _ _ _ _ _ _ _ _ _ _ _ _ _ _ _ _ _ _ _ _ _ _ _ _ _ _ _ _ _ _ _ _ _ _ _ _ _ _ _ _ _ _ _ _ _ _ _ _ _ _ _ _ _ _ _ _ _ _ _ _ _ _ _ _ _ _ _ _ _ _ _ _ _ _ _ _ _ _ _ _ _ _ _ _ _ _ _ _ _ _ _ _ _ _ _ _ _ _ _ _ _ _ _ _ _ _ _ _ _ _ _ _ _ _ _ _ _ _ _ _ _ _ _ _ _ _ _ _ _ _ _ HB4.out
end
end Go.Proofs.Ytdiflmckjpmngaa
