/- GraphReaches: the law from region 20 on: Reaches and Way. -/
import Derived.Test.YtgedmfcfhdfoeaaGuY
namespace Go.Proofs.Ytgedmfcfhdfoeaa
open Go.RowKit GM Gux
set_option maxRecDepth 20000
theorem wy_len {N : Int} {E : List (Int × Int)} {a b : Int} {w w' : World} {e : Ending} (h : WyP N E a b w e w') : ∃ (L : List Nat) (e0 : Nat) (o : Option Addr) (c g : Nat), e = .returned (.tuple #[.slice o L.length c, .int .i64 (e0 : Int)]) ∧ WyV N E a b L e0 ∧ Il g (.slice o L.length c) L w' ∧ Below w.heap.size w w' := by
  obtain ⟨hb, L, e0, o, c, h1, h2, h3⟩ := h
  obtain ⟨g, h4, -⟩ := own_il h3
  exact ⟨L, e0, o, c, g, h1, h2, h4, hb⟩
theorem Il.belowX {g : Nat} {v : Value} {l : List Nat} {w w' : World} (h : Il g v l w) (hb : Below w.heap.size w w') : Il g v l w' := h.keep0 hb.size fun hp => hb.block _ (h.lt hp)
theorem bne_self (r : Bool) : (r != r) = false := by cases r <;> rfl
attribute [local go_sem ↓] toSlZ
set_option maxRecDepth 100000 in
set_option maxHeartbeats 6400000 in
theorem lr20 (W X : World) {N : Int} {E : List (Int × Int)} {l : List Int} {v rv : Value} {g0 g cap bO cO kP kR kH k16 k20 m cN : Nat} {oN : Option Addr} {a b : Int} {ds : List Deferred} {Q : Exit → Act → World → Prop}
    (hw : Lr N E l v rv g0 g cap bO cO kP kR kH W X) (r16 : X.heap[k16]? = some (.cells #[.slice oN m cN] 32 (0, 0))) (r20 : X.heap[k20]? = some (.cells #[.int .i64 (m : Int)] 3 (0, 0)))
    (hlw : ∀ L e, WyV N E a b L e → L.length < 1000000000)
    (hQ : ∀ (t : Array Value) (Y : World), Below W.heap.size W Y → Rm.Agr (fun k => k < X.heap.size ∧ k ≠ kR) X Y → Y.heap[kR]? = some (.cells #[.bool true] 4 (0, 0)) → t[8]? = some (.pointer (some ⟨kR, 0, none⟩)) → Q .ret ⟨t, ds⟩ Y) {v0 v5 v6 v7 v12 v13 v14 v15 v17 v18 v19 v21 v22 v23 v24 v25 v26 v27 v28 v29 v30 v31 v32 v33 v34 v35 v36 v37 v38 v39 v40 v41 v42 v43 v44 v45 v46 v47 v48 v49 v50 v51 v52 v53 v54 v55 v56 v57 v58 v59 v60 v61 v62 v63 v64 v65 v66 v67 v68 v69 v70 v71 v72 v73 v74 v75 v76 v77 v78 v79 v80 v81 v82 v83 v84 v85 v86 v87 v88 v89 v90 v91 v92 v93 v94 v95 v96 v97 v98 v99 v100 v101 v102 v103 v104 v105 v106 v107 v108 v109 v110 v111 v112 v113 v114 v115 v116 v117 v118 v119 v120 v121 v122 v123 v124 v125 v126 v127 v128 v129 v130 v131 v132 v133 v134 v135 v136 v137 v138 v139 v140 v141 v142 v143 v144 v145 v146 v147 v148 v149 v150 v151 v152 v153 v154 v155 v156 v157 v158 v159 v160 v161 v162 v163 v164 v165 v166 v167 v168 v169 v170 : Value} :
    Code.wp Try.prog (tlF Try.f4 20) Q ⟨#[v0, rv, .int .i64 a, .int .i64 b, .pointer (some ⟨kP, 0, none⟩), v5, v6, v7, .pointer (some ⟨kR, 0, none⟩), .slice (some ⟨g, 0, none⟩) (E.length + 1) cap, .pointer (some ⟨kH, 0, none⟩), .slice (some ⟨bO, 0, none⟩) (l.length + 1) cO, v12, v13, v14, v15, .pointer (some ⟨k16, 0, none⟩), v17, v18, v19, .pointer (some ⟨k20, 0, none⟩), v21, v22, v23, v24, v25, v26, v27, v28, v29, v30, v31, v32, v33, v34, v35, v36, v37, v38, v39, v40, v41, v42, v43, v44, v45, v46, v47, v48, v49, v50, v51, v52, v53, v54, v55, v56, v57, v58, v59, v60, v61, v62, v63, v64, v65, v66, v67, v68, v69, v70, v71, v72, v73, v74, v75, v76, v77, v78, v79, v80, v81, v82, v83, v84, v85, v86, v87, v88, v89, v90, v91, v92, v93, v94, v95, v96, v97, v98, v99, v100, v101, v102, v103, v104, v105, v106, v107, v108, v109, v110, v111, v112, v113, v114, v115, v116, v117, v118, v119, v120, v121, v122, v123, v124, v125, v126, v127, v128, v129, v130, v131, v132, v133, v134, v135, v136, v137, v138, v139, v140, v141, v142, v143, v144, v145, v146, v147, v148, v149, v150, v151, v152, v153, v154, v155, v156, v157, v158, v159, v160, v161, v162, v163, v164, v165, v166, v167, v168, v169, v170], ds⟩ X := by
  obtain ⟨p0, p1, p2, p3, p4, p5⟩ := hw.cells
  have C1 := reachesC_all N E a b _ X hw.half
  have HW := mkHid (And.intro hw (And.intro hQ (And.intro r16 (And.intro r20 hlw))))
  obtain ⟨r, hr⟩ : ∃ r, (rsV N E a b).1 = r := ⟨_, rfl⟩
  obtain ⟨e1, he1⟩ : ∃ e, (rsV N E a b).2 = e := ⟨_, rfl⟩
  unfold RsP at C1
  unfold grV at C1
  rw [hr, he1] at C1
  have HR := mkHid (And.intro hr he1)
  clear hw hQ r16 r20 hlw hr he1
  conv => arg 2; whnf
  go_wp2_with fail
  refine C1.mono ?_
  rintro e X1 ⟨rfl, b1⟩
  have L1 := HW.out.1.below b1
  have HB1 := mkHid b1
  obtain ⟨p0, p1, p2, p3, p4, p5⟩ := L1.cells
  have C2 := reachesR_all N E a b _ X1 L1.el
  unfold RsP at C2
  unfold grV at C2
  rw [HR.out.1, HR.out.2] at C2
  clear C1 b1 L1
  go_wp2_with fail
  refine C2.mono ?_
  rintro e X2 ⟨rfl, b2⟩
  have HB2 := mkHid (HB1.out.trans (b2.mono HB1.out.size))
  have L2 := HW.out.1.below HB2.out
  obtain ⟨p0, p1, p2, p3, p4, p5⟩ := L2.cells
  have q20 := cell_belowX HB2.out ((cell_of_row _ _ _ _ _ _ HW.out.2.2.2.1).trans (rfl : (#[Value.int .i64 (m : Int)])[0]? = some (.int .i64 (m : Int))))
  have q16 := cell_belowX HB2.out ((cell_of_row _ _ _ _ _ _ HW.out.2.2.1).trans (rfl : (#[Value.slice oN m cN])[0]? = some (.slice oN m cN)))
  have C3 := wayC_all N E a b _ X2 L2.half
  have z1 := bne_self r
  unfold grV at C3
  clear C2 b2 L2
  go_wp2_with fail
  refine C3.mono ?_
  intro e X3 h3
  obtain ⟨L, e0, o1, c1, ga, rfl, hV, hI, b3⟩ := wy_len h3
  have HB3 := mkHid (HB2.out.trans (b3.mono HB2.out.size))
  have L3 := HW.out.1.below HB3.out
  obtain ⟨p0, p1, p2, p3, p4, p5⟩ := L3.cells
  have C4 := wayR_all N E a b _ X3 L3.el
  obtain ⟨m1, hm1⟩ : ∃ k, L.length = k := ⟨_, rfl⟩
  have HV := mkHid (And.intro hV (And.intro hI hm1))
  unfold grV at C4
  rw [hm1]
  clear C3 h3 b3 L3 q16 q20 hV hI hm1
  go_wp2_with fail
  refine C4.mono ?_
  intro e X4 h4
  obtain ⟨L', e0', o2, c2, gb, rfl, hV', hI', b4⟩ := wy_len h4
  obtain ⟨rfl, rfl⟩ := wyv_uniq HV.out.1 hV'
  have HB4 := mkHid (HB3.out.trans (b4.mono HB3.out.size))
  have HI := mkHid (And.intro (HV.out.2.1.belowX b4) (And.intro hI' b4))
  have HL := mkHid (HW.out.2.2.2.2 _ _ hV')
  obtain ⟨oR, cR, rfl, -⟩ := id HW.out.1.ia
  have C5 := sameZ_any X4 (nat_ia HI.out.1) (nat_ia HI.out.2.1) (by rw [List.length_map]; exact HL.out)
  rw [HV.out.2.2] at C5 ⊢
  clear C4 h4 b4 hV' hI'
  obtain ⟨p0, p1, p2, p3, p4, p5⟩ := (HW.out.1.below HB4.out).cells
  go_wp2_with fail
  refine C5.mono ?_
  rintro e X5 ⟨rfl, q5, hX5⟩
  have b45 : Below X4.heap.size X4 X5 := by rw [hX5]; exact below_drewN X4 q5
  have b5 : Below X.heap.size X X5 := HB4.out.trans (b45.mono HB4.out.size)
  have C6 := kept_any N E HW.out.1.hE g cap HW.out.1.hcap v X5 (HW.out.1.below b5).full (HW.out.1.below b5).el
  have HB5 := mkHid b5
  obtain ⟨p0, p1, p2, p3, p4, p5⟩ := (HW.out.1.below b5).cells
  unfold grV at C6
  clear C5 hX5 b5 b45
  go_wp2_with fail
  refine C6.mono ?_
  rintro e X6 ⟨rfl, b6⟩
  have HB6 := mkHid (HB5.out.trans (b6.mono HB5.out.size))
  have L6 := HW.out.1.below HB6.out
  obtain ⟨p0, p1, p2, p3, p4, p5⟩ := L6.cells
  have C7 := sameZ_any X6 L6.mine L6.ia (by have := L6.hl; omega)
  have ch := fun Z : World => run_cutZ Z bO 0 (l.length + 1) cO l.length (by have := HW.out.1.hcO; omega)
  clear C6 b6 L6
  go_wp2_with fail
  refine C7.mono ?_
  rintro e X7 ⟨rfl, q7, hX7⟩
  have b7 : Below X6.heap.size X6 X7 := by rw [hX7]; exact below_drewN X6 q7
  have HB7 := mkHid (HB6.out.trans (b7.mono HB6.out.size))
  have L7 := HW.out.1.below HB7.out
  obtain ⟨p0, p1, p2, p3, p4, p5⟩ := L7.cells
  have pl := L7.last
  rw [Nat.zero_add] at pl
  have i0 := geI l.length
  have i1 : (l.length : Int) < ((l.length + 1 : Nat) : Int) := by omega
  have i2 : (l.length : Int) < (l.length : Int) + 1 := by omega
  have HZ : Hid (∀ t : Array Value, t[8]? = some (.pointer (some ⟨kR, 0, none⟩)) → Q .ret ⟨t, ds⟩ (X7.setCell ⟨kR, 0, none⟩ (.bool true))) := fun t ht => by
    refine HW.out.2.1 t _ (L7.bel.setCell (by show W.heap.size ≤ kR; exact L7.hR) _) ⟨HB7.out.os, HB7.out.tape, HB7.out.output, by have := HB7.out.size; simpa [World.setCell] using this, fun k hk hx => ?_⟩ (res_true L7.res) ht
    exact (heap_setCell_other X7 ⟨kR, 0, none⟩ k _ hx.2).trans (HB7.out.block k hk)
  clear C7 b7 hX7 L7
  go_wp2_with fail
  exact HZ.out _ rfl
end Go.Proofs.Ytgedmfcfhdfoeaa
