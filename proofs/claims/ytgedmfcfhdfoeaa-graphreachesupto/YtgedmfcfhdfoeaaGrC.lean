/- GraphReaches: the law from region 5 on. -/
import Derived.Test.YtgedmfcfhdfoeaaGrB
import Derived.Deep.RegionHeld3
import Derived.Deep.QuietTactic
import Derived.BigQuiet
namespace Go.Proofs.Ytgedmfcfhdfoeaa
open Go.RowKit GM Gux
set_option maxRecDepth 20000
theorem cl_il {N : Int} {E : List (Int × Int)} {l : List Int} {w w' : World} {e : Ending} (h : ClP N E l w e w') : ∃ (L : List Nat) (e0 : Nat) (o : Option Addr) (m c g : Nat), e = .returned (.tuple #[.slice o m c, .int .i64 (e0 : Int)]) ∧ Il g (.slice o m c) L w' ∧ Below w.heap.size w w' ∧ ClV N E l L e0 := by
  obtain ⟨L, e0, o, m, c, h1, h2, h3, h4, h5⟩ := h
  subst h2
  obtain ⟨g, h6, -⟩ := own_il h3
  exact ⟨L, e0, o, _, c, g, h1, h6, h4, h5⟩
theorem clv_short {N : Int} {E : List (Int × Int)} {l : List Int} {L : List Nat} {e0 : Nat} (h : ClV N E l L e0) : L.length < 1000000000 := by
  rcases h with ⟨-, rfl⟩ | ⟨n, F, S, K, h1, h2, -, rfl⟩
  · simp
  · rw [srt_len, List.length_map]
    have h3 := eaL_tot h1.2.2.2.2 (fun v _ x hx => ndF_lt (N := n) (E := F) v x hx) K
    obtain ⟨n', F', e1, e2, -⟩ := chk_ok h1.2.2.2.1
    have := h1.1
    omega
theorem eqFn (d : Nat) (w : World) (f : Nat) (fi ca : Array Value) : (Op.equalIn (d + 1) 43 (.func (.func f) fi ca) .nilFunc).run Try.prog w = .ok false w := by
  simp [Op.equalIn, run_underlying Try.underlying43]
theorem eqlFn (w : World) (f : Nat) (fi ca : Array Value) : (binOp .eql 43 (.func (.func f) fi ca) .nilFunc).run Try.prog w = .ok (.bool false) w := by
  show ((do pure (.bool (← Op.equal 43 (.func (.func f) fi ca) .nilFunc)) : Sem Value)).run Try.prog w = _
  rw [Sem.run_bind, show (Op.equal 43 (.func (.func f) fi ca) .nilFunc).run Try.prog w = _ from eqFn 9999 w f fi ca]
  rfl
theorem below_drew1 (w : World) : Below w.heap.size w w.drew := ⟨rfl, rfl, rfl, Nat.le_refl _, fun _ _ => rfl⟩
attribute [local go_sem] Oper.semAt_some
attribute [local go_sem ↓] toSlZ
set_option maxRecDepth 100000 in
set_option maxHeartbeats 6400000 in
theorem lr10 (W X : World) {N : Int} {E : List (Int × Int)} {l : List Int} {v rv : Value} {g0 g cap bO cO kP kR kH k16 k17 m c1 c2 ga gb : Nat} {o1 o2 : Option Addr} {a b : Int} {L : List (Nat × Nat)}
    (hw : Lr N E l v rv g0 g cap bO cO kP kR kH W X) (r16 : X.heap[k16]? = some (.cells #[.slice o1 m c1] 32 (0, 0))) (r17 : X.heap[k17]? = some (.cells #[.slice o2 m c2] 32 (0, 0)))
    (i1 : Il ga (.slice o1 m c1) (L.map Prod.fst) X) (i2 : Il gb (.slice o2 m c2) (L.map Prod.snd) X) (hm : m = L.length) (hL : LiV N E l L) {v0 v5 v6 v7 v12 v13 v14 v15 v18 v19 v20 v21 v22 v23 v24 v25 v26 v27 v28 v29 v30 v31 v32 v33 v34 v35 v36 v37 v38 v39 v40 v41 v42 v43 v44 v45 v46 v47 v48 v49 v50 v51 v52 v53 v54 v55 v56 v57 v58 v59 v60 v61 v62 v63 v64 v65 v66 v67 v68 v69 v70 v71 v72 v73 v74 v75 v76 v77 v78 v79 v80 v81 v82 v83 v84 v85 v86 v87 v88 v89 v90 v91 v92 v93 v94 v95 v96 v97 v98 v99 v100 v101 v102 v103 v104 v105 v106 v107 v108 v109 v110 v111 v112 v113 v114 v115 v116 v117 v118 v119 v120 v121 v122 v123 v124 v125 v126 v127 v128 v129 v130 v131 v132 v133 v134 v135 v136 v137 v138 v139 v140 v141 v142 v143 v144 v145 v146 v147 v148 v149 v150 v151 v152 v153 v154 v155 v156 v157 v158 v159 v160 v161 v162 v163 v164 v165 v166 v167 v168 v169 v170 : Value} :
    Code.wp Try.prog (tlF Try.f4 10) (bodyPostM Fence.wide 9 Try.prog Try.f4 (fun e w' => e = .returned (.bool true) ∧ Below W.heap.size W w')) ⟨#[v0, rv, .int .i64 a, .int .i64 b, .pointer (some ⟨kP, 0, none⟩), v5, v6, v7, .pointer (some ⟨kR, 0, none⟩), .slice (some ⟨g, 0, none⟩) (E.length + 1) cap, .pointer (some ⟨kH, 0, none⟩), .slice (some ⟨bO, 0, none⟩) (l.length + 1) cO, v12, v13, v14, v15, .pointer (some ⟨k16, 0, none⟩), .pointer (some ⟨k17, 0, none⟩), v18, v19, v20, v21, v22, v23, v24, v25, v26, v27, v28, v29, v30, v31, v32, v33, v34, v35, v36, v37, v38, v39, v40, v41, v42, v43, v44, v45, v46, v47, v48, v49, v50, v51, v52, v53, v54, v55, v56, v57, v58, v59, v60, v61, v62, v63, v64, v65, v66, v67, v68, v69, v70, v71, v72, v73, v74, v75, v76, v77, v78, v79, v80, v81, v82, v83, v84, v85, v86, v87, v88, v89, v90, v91, v92, v93, v94, v95, v96, v97, v98, v99, v100, v101, v102, v103, v104, v105, v106, v107, v108, v109, v110, v111, v112, v113, v114, v115, v116, v117, v118, v119, v120, v121, v122, v123, v124, v125, v126, v127, v128, v129, v130, v131, v132, v133, v134, v135, v136, v137, v138, v139, v140, v141, v142, v143, v144, v145, v146, v147, v148, v149, v150, v151, v152, v153, v154, v155, v156, v157, v158, v159, v160, v161, v162, v163, v164, v165, v166, v167, v168, v169, v170], []⟩ X := by
  obtain ⟨oR, cR, rfl, -⟩ := id hw.ia
  have hd := hw.below (below_drew1 X)
  have CL := eachC_all N E l _ _ X.drew hd.half hd.mine hd.hl
  have g1 : X.drew.cell? ⟨kH, 0, none⟩ = some (.int .i64 N) := hd.cells.2.2.1
  have g2 : X.drew.cell? ⟨kH, 1, none⟩ = some (.slice (some ⟨g, 0, none⟩) E.length cap) := hd.cells.2.2.2.1
  have ch := fun Z : World => run_cutZ Z bO 0 (l.length + 1) cO l.length (by have := hw.hcO; omega)
  have HS1 : Hid (∀ w8, Below X.drew.heap.size X.drew w8 → (w8.cell? ⟨kH, 0, none⟩ = some (.int .i64 N) ∧ w8.cell? ⟨kH, 1, none⟩ = some (.slice (some ⟨g, 0, none⟩) E.length cap))) := fun w8 h8 => ⟨cell_belowX h8 g1, cell_belowX h8 g2⟩
  have HW := mkHid (And.intro hw (And.intro r16 (And.intro r17 (And.intro i1 (And.intro i2 (And.intro hm hL))))))
  unfold grV at CL
  clear hw r16 r17 i1 i2 hm hL hd
  conv => arg 2; whnf
  go_upto_region 10 with fail
  go_region_held3 (fun w' => w'.cell? ⟨kH, 0, none⟩ = some (.int .i64 N) ∧ w'.cell? ⟨kH, 1, none⟩ = some (.slice (some ⟨g, 0, none⟩) E.length cap))
    (first | assumption | exact ⟨g1, g2⟩ | go_keep)
    (first
      | (go_at_call 17; with_reducible refine Calls.mono CL ?_; rintro e w8 ⟨L', fv, rfl, b8, hE8, hL8⟩; have hS8 := HS1.out w8 b8))
  obtain ⟨gf, lb, Da, rfl, heg, hDa, hit⟩ := id hE8
  have HE := mkHid (And.intro hE8 (And.intro hL8 b8))
  clear heg hDa hit hE8 hL8 b8 hS8 HS1 CL g1 g2
  rename_i hHeld
  clear hHeld
  have ef := eqlFn w8 gf #[] lb
  go_upto_region 11 with fail
  rename_i Q0 K1 hk1 K0 hk0
  have HK1 := mkHid hk1
  clear hk1
  go_wp2_with fail
  obtain ⟨hw, r16, r17, i1, i2, hm, hL⟩ := HW.out
  obtain ⟨hE8, hL8, b8⟩ := HE.out
  have b08 : Below X.heap.size X w8 := (below_drew1 X).trans (b8.mono (below_drew1 X).size)
  obtain rfl := liv_uniq hL hL8
  exact HK1.out _ _ (lr13 W w8 (hw.below b08) ((b08.block _ (Array.getElem?_eq_some_iff.1 r16).1).trans r16) ((b08.block _ (Array.getElem?_eq_some_iff.1 r17).1).trans r17) (i1.belowX b08) (i2.belowX b08) hm (liv_len hL) hE8)
end Go.Proofs.Ytgedmfcfhdfoeaa
