/- GraphReaches: what lies at the law; the law from region 26 on. -/
import Derived.Test.YtgedmfcfhdfoeaaGuX
import Derived.Deep.Cut
namespace Go.Proofs.Ytgedmfcfhdfoeaa
open Go.RowKit GM Gux
set_option maxRecDepth 20000
set_option maxRecDepth 100000 in
set_option maxHeartbeats 1600000 in
theorem sameZ_any (w : World) {ga gb : Nat} {a b : Value} {l : List Int} (ha : Ia ga a l w) (hb : Ia gb b l w) (hl : l.length < 1000000000) :
    Calls Try.prog 9 #[a, b] w fun e w' => e = .returned (.bool true) ∧ ∃ m, w' = w.drewN m := by
  obtain ⟨oa, ca, rfl, h1⟩ := ha
  obtain ⟨ob, cb, rfl, h2⟩ := hb
  obtain ⟨m, hm⟩ : ∃ m, l.length = m := ⟨_, rfl⟩
  rw [hm] at h1 h2 hl ⊢
  have H1 := mkHid h1
  have H2 := mkHid h2
  have HL := mkHid hl
  clear h1 h2 hl hm
  go_enter Try.func9, Try.ntmps9
  go_wp2_with fail
  go_loopw [5] (fun iv wr => ∃ i : Nat, iv = .int .i64 (i : Int) ∧ i ≤ m ∧ Hid (∃ q, wr = w.drewN q)) (fun iv _ => m - (intOf iv).toNat)
  case atStart => exact ⟨0, rfl, Nat.zero_le _, 0, rfl⟩
  case round =>
    obtain ⟨i, rfl, hi, HI⟩ := hrel
    by_cases hlt : i < m
    · have i1 := ltI hlt
      have i0 := geI i
      have hw1 := wrapI i (Nat.lt_trans hlt HL.out)
      obtain ⟨offa, rfl, -, ca1⟩ := H1.out (Nat.lt_of_le_of_lt (Nat.zero_le _) hlt)
      obtain ⟨offb, rfl, -, cb1⟩ := H2.out (Nat.lt_of_le_of_lt (Nat.zero_le _) hlt)
      obtain ⟨q, hq⟩ := HI.out
      have d1 : ∀ k, (wr.drewN k).cell? ⟨ga, offa + i, none⟩ = some (.int .i64 (l.getD i 0)) := fun k => by rw [hq]; exact ca1 i hlt
      have d2 : ∀ k, (wr.drewN k).cell? ⟨gb, offb + i, none⟩ = some (.int .i64 (l.getD i 0)) := fun k => by rw [hq]; exact cb1 i hlt
      obtain ⟨x, hx⟩ : ∃ x, l.getD i 0 = x := ⟨_, rfl⟩
      rw [hx] at d1 d2
      have HQ := mkHid hq
      clear ca1 cb1 hx hq
      go_wp2_with fail
      go_quiet (fail)
      go_wp2_with fail
      exact ⟨⟨i + 1, by simp [hw1], hlt, by rw [HQ.out, World.drewN_drewN]; exact ⟨_, rfl⟩⟩, by rw [hw1]; exact measI _ _ hlt⟩
    · have i1 := nltI hlt
      go_wp2_with fail
      go_ret
      exact ⟨rfl, HI.out⟩
/-- What lies at the law. -/
structure Lr (N : Int) (E : List (Int × Int)) (l : List Int) (v rv : Value) (g0 g cap bO cO kP kR kH : Nat) (W X : World) : Prop where
  bel : Below W.heap.size W X
  el : El v E X
  ia : Ia g0 rv l X
  full : El (.slice (some ⟨g, 0, none⟩) (E.length + 1) cap) (E ++ [(-77, 77)]) X
  hcap : E.length + 1 ≤ cap
  own : Ia bO (.slice (some ⟨bO, 0, none⟩) (l.length + 1) cO) (l ++ [-77]) X
  hcO : l.length + 1 ≤ cO
  par : X.heap[kP]? = some (.cells #[.int .i64 N, v] 24 (0, 0))
  cpy : X.heap[kH]? = some (.cells #[.int .i64 N, .slice (some ⟨g, 0, none⟩) E.length cap] 24 (0, 0))
  res : X.heap[kR]? = some (.cells #[.bool false] 4 (0, 0))
  hR : W.heap.size ≤ kR
  hE : E.length ≤ 1073741824
  hl : l.length < 10000000
section
variable {N : Int} {E : List (Int × Int)} {l : List Int} {v rv : Value} {g0 g cap bO cO kP kR kH : Nat} {W X Y : World}
theorem Lr.below (h : Lr N E l v rv g0 g cap bO cO kP kR kH W X) (b : Below X.heap.size X Y) : Lr N E l v rv g0 g cap bO cO kP kR kH W Y :=
  ⟨h.bel.trans (b.mono h.bel.size), h.el.below b, h.ia.below b, h.full.below b, h.hcap, h.own.below b, h.hcO, (b.block _ (Array.getElem?_eq_some_iff.1 h.par).1).trans h.par, (b.block _ (Array.getElem?_eq_some_iff.1 h.cpy).1).trans h.cpy, (b.block _ (Array.getElem?_eq_some_iff.1 h.res).1).trans h.res, h.hR, h.hE, h.hl⟩
theorem Lr.half (h : Lr N E l v rv g0 g cap bO cO kP kR kH W X) : El (.slice (some ⟨g, 0, none⟩) E.length cap) E X := by
  rcases h.full with ⟨e, -⟩ | ⟨b, off, cap', h1, h2, h3, h4, h5⟩
  · cases e
  · simp only [Value.slice.injEq, Option.some.injEq, Addr.mk.injEq] at h1
    obtain ⟨⟨rfl, rfl, -⟩, -, rfl⟩ := h1
    rw [List.length_append, List.length_singleton] at h2 h5
    refine .inr ⟨g, 0, cap, rfl, by omega, h3, h4, fun j hj => ?_⟩
    have := h5 j (by omega)
    have e : (E ++ [((-77 : Int), (77 : Int))]).getD j (0, 0) = E.getD j (0, 0) := by simp [List.getD, List.getElem?_append_left hj]
    rw [e] at this
    exact this
theorem Lr.mine (h : Lr N E l v rv g0 g cap bO cO kP kR kH W X) : Ia bO (.slice (some ⟨bO, 0, none⟩) l.length cO) l X := by
  obtain ⟨o, c, e, h1⟩ := h.own
  injection e with e1 e2 e3
  subst e1
  obtain ⟨off, q, h2, h3⟩ := h1 (by simp)
  injection q with q
  injection q with q1 q2
  subst q2
  refine ⟨_, _, rfl, fun hp => ⟨0, rfl, h2, fun j hj => ?_⟩⟩
  have := h3 j (by simp; omega)
  have e : (l ++ [(-77 : Int)]).getD j 0 = l.getD j 0 := by simp [List.getD, List.getElem?_append_left hj]
  rw [e] at this
  exact this
theorem Lr.last (h : Lr N E l v rv g0 g cap bO cO kP kR kH W X) : X.cell? ⟨bO, 0 + l.length, none⟩ = some (.int .i64 (-77)) := by
  obtain ⟨o, c, e, h1⟩ := h.own
  injection e with e1 e2 e3
  subst e1
  obtain ⟨off, q, h2, h3⟩ := h1 (by simp)
  injection q with q
  injection q with q1 q2
  subst q2
  have := h3 l.length (by simp)
  have e : (l ++ [(-77 : Int)]).getD l.length 0 = -77 := by simp [List.getD]
  rw [e] at this
  exact this
theorem Lr.cells (h : Lr N E l v rv g0 g cap bO cO kP kR kH W X) : X.cell? ⟨kP, 0, none⟩ = some (.int .i64 N) ∧ X.cell? ⟨kP, 1, none⟩ = some v ∧ X.cell? ⟨kH, 0, none⟩ = some (.int .i64 N) ∧ X.cell? ⟨kH, 1, none⟩ = some (.slice (some ⟨g, 0, none⟩) E.length cap) ∧ X.cell? ⟨kR, 0, none⟩ = some (.bool false) ∧ X.frozen? ⟨kR, 0, none⟩ = false :=
  ⟨(cell_of_row _ _ _ _ _ _ h.par).trans rfl, (cell_of_row _ _ _ _ _ _ h.par).trans rfl, (cell_of_row _ _ _ _ _ _ h.cpy).trans rfl, (cell_of_row _ _ _ _ _ _ h.cpy).trans rfl, (cell_of_row _ _ _ _ _ _ h.res).trans rfl, frozen_of_row _ _ _ _ _ h.res⟩
end
theorem below_drewN (w : World) (m : Nat) : Below w.heap.size w (w.drewN m) := ⟨rfl, rfl, rfl, Nat.le_refl _, fun _ _ => rfl⟩
def slZ (v : Value) (lo hi mx : Option Value) : Sem Value := Instr.slice 32 v lo hi mx
theorem toSlZ (v : Value) (lo hi mx : Option Value) : Instr.slice 32 v lo hi mx = slZ v lo hi mx := rfl
theorem elemZ : Try.prog.elem 32 = 3 := by kernel_rfl
theorem uZ : Try.prog.underlying 32 = some (.slice (Try.prog.elem 32)) := by rw [elemZ]; exact Try.underlying32
theorem run_cutZ (w : World) (g o n c k : Nat) (hk : k ≤ c) : (slZ (.slice (some ⟨g, o, none⟩) n c) none (some (.int .i64 (k : Int))) none).run Try.prog w = .ok (.slice (some ⟨g, o, none⟩) k c) w := by
  have := run_slice_h (P := Try.prog) w 32 (some ⟨g, o, none⟩) n c uZ .i64 (k : Int) (by omega) (by omega)
  obtain ⟨i, hi, _, hs, _⟩ := info_parts info3
  have hz : (sizeOf 3).run Try.prog w = .ok 1 w := by simp [sizeOf, typeInfo, hi, hs]
  unfold slZ
  rw [this, elemZ, hz]
  simp [Result.andThen, sliced]
  intro _
  rfl
attribute [local go_sem ↓] toSlZ
theorem res_true {X : World} {kR : Nat} (h : X.heap[kR]? = some (.cells #[.bool false] 4 (0, 0))) : (X.setCell ⟨kR, 0, none⟩ (.bool true)).heap[kR]? = some (.cells #[.bool true] 4 (0, 0)) := by
  rw [setCell_eq_setRow X kR 0 _ _ _ _ h]
  exact setRow_heap _ _ _ _ _ _ h
theorem nat_ia {g : Nat} {v : Value} {S : List Nat} {w : World} (h : Il g v S w) : Ia g v (S.map fun n : Nat => (n : Int)) w := by
  obtain ⟨o, c, h1, h2⟩ := h
  refine ⟨o, c, by rw [List.length_map]; exact h1, fun hp => ?_⟩
  rw [List.length_map] at hp
  obtain ⟨off, h3, h4, h5⟩ := h2 hp
  refine ⟨off, h3, h4, fun j hj => ?_⟩
  rw [List.length_map] at hj
  rw [h5 j hj]
  simp [List.getD, hj]
set_option maxRecDepth 100000 in
set_option maxHeartbeats 6400000 in
theorem lr26 (W X : World) {N : Int} {E : List (Int × Int)} {l : List Int} {v rv : Value} {g0 g cap bO cO kP kR kH : Nat} {a b : Int} {e0 : Nat} {L : List Nat} {o1 o2 : Option Addr} {m1 m2 c1 c2 ga gb : Nat} {ds : List Deferred} {Q : Exit → Act → World → Prop}
    (hw : Lr N E l v rv g0 g cap bO cO kP kR kH W X) (h1 : Il ga (.slice o1 m1 c1) L X) (h2 : Il gb (.slice o2 m2 c2) L X) (hL : L.length < 1000000000) (hQ : ∀ (t : Array Value) (Y : World), Below W.heap.size W Y → Rm.Agr (fun k => k < X.heap.size ∧ k ≠ kR) X Y → Y.heap[kR]? = some (.cells #[.bool true] 4 (0, 0)) → t[8]? = some (.pointer (some ⟨kR, 0, none⟩)) → Q .ret ⟨t, ds⟩ Y) {v0 v5 v6 v7 v16 v17 v18 v19 v20 v21 v22 v23 v24 v25 v26 v27 v28 v29 v30 v31 v32 v33 v34 v35 v36 v37 v38 v39 v40 v41 v42 v43 v44 v45 v46 v47 v48 v49 v50 v51 v52 v53 v54 v55 v56 v57 v58 v59 v60 v61 v62 v63 v64 v65 v66 v67 v68 v69 v70 v71 v72 v73 v74 v75 v76 v77 v78 v79 v80 v81 v82 v83 v84 v85 v86 v87 v88 v89 v90 v91 v92 v93 v94 v95 v96 v97 v98 v99 v100 v101 v102 v103 v104 v105 v106 v107 v108 v109 v110 v111 v112 v113 v114 v115 v116 v117 v118 v119 v120 v121 v122 v123 v124 v125 v126 v127 v128 v129 v130 v131 v132 v133 v134 v135 v136 v137 v138 v139 v140 v141 v142 v143 v144 v145 v146 v147 v148 v149 v150 v151 v152 v153 v154 v155 v156 v157 v158 v159 v160 v161 v162 v163 v164 v165 v166 v167 v168 v169 v170 : Value} :
    Code.wp Try.prog (tlF Try.f4 26) Q ⟨#[v0, rv, .int .i64 a, .int .i64 b, .pointer (some ⟨kP, 0, none⟩), v5, v6, v7, .pointer (some ⟨kR, 0, none⟩), .slice (some ⟨g, 0, none⟩) (E.length + 1) cap, .pointer (some ⟨kH, 0, none⟩), .slice (some ⟨bO, 0, none⟩) (l.length + 1) cO, .slice o1 m1 c1, .int .i64 (e0 : Int), .slice o2 m2 c2, .int .i64 (e0 : Int), v16, v17, v18, v19, v20, v21, v22, v23, v24, v25, v26, v27, v28, v29, v30, v31, v32, v33, v34, v35, v36, v37, v38, v39, v40, v41, v42, v43, v44, v45, v46, v47, v48, v49, v50, v51, v52, v53, v54, v55, v56, v57, v58, v59, v60, v61, v62, v63, v64, v65, v66, v67, v68, v69, v70, v71, v72, v73, v74, v75, v76, v77, v78, v79, v80, v81, v82, v83, v84, v85, v86, v87, v88, v89, v90, v91, v92, v93, v94, v95, v96, v97, v98, v99, v100, v101, v102, v103, v104, v105, v106, v107, v108, v109, v110, v111, v112, v113, v114, v115, v116, v117, v118, v119, v120, v121, v122, v123, v124, v125, v126, v127, v128, v129, v130, v131, v132, v133, v134, v135, v136, v137, v138, v139, v140, v141, v142, v143, v144, v145, v146, v147, v148, v149, v150, v151, v152, v153, v154, v155, v156, v157, v158, v159, v160, v161, v162, v163, v164, v165, v166, v167, v168, v169, v170], ds⟩ X := by
  obtain ⟨oR, cR, rfl, -⟩ := id hw.ia
  have C1 := sameZ_any X (nat_ia h1) (nat_ia h2) (by rw [List.length_map]; exact hL)
  have HW := mkHid (And.intro hw hQ)
  clear h1 h2 hL hw hQ
  obtain ⟨p0, p1, p2, p3, p4, p5⟩ := HW.out.1.cells
  conv => arg 2; whnf
  go_wp2_with fail
  refine C1.mono ?_
  rintro e X1 ⟨rfl, q1, hX1⟩
  have b1 : Below X.heap.size X X1 := by rw [hX1]; exact below_drewN X q1
  have C2 := kept_any N E HW.out.1.hE g cap HW.out.1.hcap v X1 (HW.out.1.below b1).full (HW.out.1.below b1).el
  have HB1 := mkHid b1
  obtain ⟨p0, p1, p2, p3, p4, p5⟩ := (HW.out.1.below b1).cells
  unfold grV at C2
  clear C1 hX1 b1
  go_wp2_with fail
  refine C2.mono ?_
  rintro e X2 ⟨rfl, b2⟩
  have HB2 := mkHid (HB1.out.trans (b2.mono HB1.out.size))
  have L2 := HW.out.1.below HB2.out
  obtain ⟨p0, p1, p2, p3, p4, p5⟩ := L2.cells
  have C3 := sameZ_any X2 L2.mine L2.ia (by have := L2.hl; omega)
  have ch := fun Z : World => run_cutZ Z bO 0 (l.length + 1) cO l.length (by have := HW.out.1.hcO; omega)
  clear C2 b2 L2
  go_wp2_with fail
  refine C3.mono ?_
  rintro e X3 ⟨rfl, q3, hX3⟩
  have b3 : Below X2.heap.size X2 X3 := by rw [hX3]; exact below_drewN X2 q3
  have HB3 := mkHid (HB2.out.trans (b3.mono HB2.out.size))
  have L3 := HW.out.1.below HB3.out
  obtain ⟨p0, p1, p2, p3, p4, p5⟩ := L3.cells
  have pl := L3.last
  rw [Nat.zero_add] at pl
  have i0 := geI l.length
  have i1 : (l.length : Int) < ((l.length + 1 : Nat) : Int) := by omega
  have i2 : (l.length : Int) < (l.length : Int) + 1 := by omega
  have HZ : Hid (∀ t : Array Value, t[8]? = some (.pointer (some ⟨kR, 0, none⟩)) → Q .ret ⟨t, ds⟩ (X3.setCell ⟨kR, 0, none⟩ (.bool true))) := fun t ht => by
    refine HW.out.2 t _ (L3.bel.setCell (by show W.heap.size ≤ kR; exact L3.hR) _) ⟨HB3.out.os, HB3.out.tape, HB3.out.output, by have := HB3.out.size; simpa [World.setCell] using this, fun k hk hx => ?_⟩ (res_true L3.res) ht
    exact (heap_setCell_other X3 ⟨kR, 0, none⟩ k _ hx.2).trans (HB3.out.block k hk)
  clear C3 b3 hX3 L3
  go_wp2_with fail
  exact HZ.out _ rfl
end Go.Proofs.Ytgedmfcfhdfoeaa
