/- GraphReaches: the law from region 13 on: the range over Each. -/
import Derived.Test.YtgedmfcfhdfoeaaGrA
namespace Go.Proofs.Ytgedmfcfhdfoeaa
open Go.RowKit GM Gux
set_option maxRecDepth 20000
/-- Between two rounds of the law. -/
structure RnB (X1 : World) (k20 i : Nat) (X : Nat → Prop) (U : World) : Prop where
  agr : Rm.Agr (fun k => k < X1.heap.size ∧ k ≠ k20) X1 U
  cnt : U.heap[k20]? = some (.cells #[.int .i64 (i : Int)] 3 (0, 0))
  xs : ∀ k, X k ↔ k = k20
theorem RnB.keep {X1 A B : World} {k20 i : Nat} {X : Nat → Prop} (h : RnB X1 k20 i X A) (hk : k20 < X1.heap.size) (hg : Rm.Agr (fun k => k < X1.heap.size ∨ X k) A B) : RnB X1 k20 i X B :=
  ⟨⟨hg.os.trans h.agr.os, hg.tape.trans h.agr.tape, hg.output.trans h.agr.output, Nat.le_trans h.agr.size hg.size, fun k h1 h2 => (hg.blk k (Nat.lt_of_lt_of_le h1 h.agr.size) (.inl h1)).trans (h.agr.blk k h1 h2)⟩, (hg.blk k20 (Nat.lt_of_lt_of_le hk h.agr.size) (.inl hk)).trans h.cnt, h.xs⟩
theorem RnB.cell {X1 U : World} {k20 i : Nat} {X : Nat → Prop} (h : RnB X1 k20 i X U) {q j : Nat} {u : Value} (hc : X1.cell? ⟨q, j, none⟩ = some u) (hq : q ≠ k20) : U.cell? ⟨q, j, none⟩ = some u := by
  have hl : q < X1.heap.size := World.block_lt_of_cell? X1 ⟨q, j, none⟩ hc
  exact (World.cell?_of_block (w := X1) (a := ⟨q, j, none⟩) (h.agr.blk q hl ⟨hl, hq⟩)).trans hc
theorem RnB.next {X1 U : World} {k20 i : Nat} {X : Nat → Prop} (h : RnB X1 k20 i X U) (_ : k20 < X1.heap.size) : Rm.Frm (fun k => X k ∨ False) U (U.setCell ⟨k20, 0, none⟩ (.int .i64 ((i + 1 : Nat) : Int))) ∧ (∀ k, X k → (X k ∨ U.heap.size ≤ k) ∧ k < (U.setCell ⟨k20, 0, none⟩ (.int .i64 ((i + 1 : Nat) : Int))).heap.size) ∧ RnB X1 k20 (i + 1) X (U.setCell ⟨k20, 0, none⟩ (.int .i64 ((i + 1 : Nat) : Int))) := by
  have hl := (Array.getElem?_eq_some_iff.1 h.cnt).1
  have oth : ∀ k, k ≠ k20 → (U.setCell ⟨k20, 0, none⟩ (.int .i64 ((i + 1 : Nat) : Int))).heap[k]? = U.heap[k]? := fun k hk => heap_setCell_other U ⟨k20, 0, none⟩ k _ hk
  have sz : (U.setCell ⟨k20, 0, none⟩ (.int .i64 ((i + 1 : Nat) : Int))).heap.size = U.heap.size := by simp
  have e := setCell_eq_setRow U k20 0 _ _ _ (.int .i64 ((i + 1 : Nat) : Int)) h.cnt
  refine ⟨⟨by rw [e]; rfl, by rw [e]; rfl, by rw [e]; rfl, by rw [sz]; exact Nat.le_refl _, fun k _ hx => oth k fun q => hx (.inl ((h.xs k).2 q))⟩, fun k hx => ⟨.inl hx, by rw [sz, (h.xs k).1 hx]; exact hl⟩, ⟨⟨by rw [e]; exact h.agr.os, by rw [e]; exact h.agr.tape, by rw [e]; exact h.agr.output, by rw [sz]; exact h.agr.size, fun k h1 h2 => (oth k h2.2).trans (h.agr.blk k h1 h2)⟩, ?_, h.xs⟩⟩
  rw [e]
  exact setRow_heap _ _ _ _ _ _ h.cnt
theorem below_put {W U : World} {kD : Nat} (h : Below W.heap.size W U) (hk : W.heap.size ≤ kD) (o : Obj) : Below W.heap.size W (U.putObj kD o) := ⟨h.os, h.tape, h.output, by simpa [World.putObj] using h.size, fun k hk2 => (World.putObj_heap_other (by omega)).trans (h.block k hk2)⟩
theorem wy_short {N : Int} {E : List (Int × Int)} {a b : Int} {L : List Nat} {e : Nat} (h : WyV N E a b L e) : L.length < 1000000000 := by
  rcases h with ⟨-, rfl, -⟩ | ⟨-, -, rfl, -⟩ | ⟨n, F, x, y, rfl, rfl, rfl, rfl, hc, hx, hy, ⟨rfl, -⟩ | ⟨-, d, hp⟩⟩
  · simp
  · simp
  · simp
  · have h1 := hp.1.ln
    have h2 := dsU_bound hx hp.1.ds
    obtain ⟨n', F', e1, e2, -⟩ := chk_ok hc
    omega
theorem results_cell8 {t : Array Value} {w : World} {kR : Nat} (h8 : t[8]? = some (.pointer (some ⟨kR, 0, none⟩))) (hr : w.heap[kR]? = some (.cells #[.bool true] 4 (0, 0))) : (results Try.f4 t).run Try.prog w = .ok (.bool true) w := by
  have hc : w.cell? ⟨kR, 0, none⟩ = some (.bool true) := (cell_of_row _ _ _ _ _ _ hr).trans rfl
  simp [results, Try.f4, go_sem, h8, hc]
attribute [local go_sem] Oper.semAt_some
set_option maxRecDepth 100000 in
set_option maxHeartbeats 6400000 in
theorem lr13 (W X : World) {N : Int} {E : List (Int × Int)} {l : List Int} {v rv : Value} {g0 g cap bO cO kP kR kH k16 k17 m c1 c2 ga gb gf : Nat} {o1 o2 : Option Addr} {a b : Int} {lb : Array Value} {L : List (Nat × Nat)}
    (hw : Lr N E l v rv g0 g cap bO cO kP kR kH W X) (r16 : X.heap[k16]? = some (.cells #[.slice o1 m c1] 32 (0, 0))) (r17 : X.heap[k17]? = some (.cells #[.slice o2 m c2] 32 (0, 0)))
    (i1 : Il ga (.slice o1 m c1) (L.map Prod.fst) X) (i2 : Il gb (.slice o2 m c2) (L.map Prod.snd) X) (hm : m = L.length) (hlen : L.length ≤ 8192) (hE : Ech L (.func (.func gf) #[] lb) X) {v0 v5 v6 v7 v12 v13 v14 v15 v18 v20 v21 v22 v23 v24 v25 v26 v27 v28 v29 v30 v31 v32 v33 v34 v35 v36 v37 v38 v39 v40 v41 v42 v43 v44 v45 v46 v47 v48 v49 v50 v51 v52 v53 v54 v55 v56 v57 v58 v59 v60 v61 v62 v63 v64 v65 v66 v67 v68 v69 v70 v71 v72 v73 v74 v75 v76 v77 v78 v79 v80 v81 v82 v83 v84 v85 v86 v87 v88 v89 v90 v91 v92 v93 v94 v95 v96 v97 v98 v99 v100 v101 v102 v103 v104 v105 v106 v107 v108 v109 v110 v111 v112 v113 v114 v115 v116 v117 v118 v119 v120 v121 v122 v123 v124 v125 v126 v127 v128 v129 v130 v131 v132 v133 v134 v135 v136 v137 v138 v139 v140 v141 v142 v143 v144 v145 v146 v147 v148 v149 v150 v151 v152 v153 v154 v155 v156 v157 v158 v159 v160 v161 v162 v163 v164 v165 v166 v167 v168 v169 v170 : Value} :
    Code.wp Try.prog (tlF Try.f4 13) (bodyPostM Fence.wide 9 Try.prog Try.f4 (fun e w' => e = .returned (.bool true) ∧ Below W.heap.size W w')) ⟨#[v0, rv, .int .i64 a, .int .i64 b, .pointer (some ⟨kP, 0, none⟩), v5, v6, v7, .pointer (some ⟨kR, 0, none⟩), .slice (some ⟨g, 0, none⟩) (E.length + 1) cap, .pointer (some ⟨kH, 0, none⟩), .slice (some ⟨bO, 0, none⟩) (l.length + 1) cO, v12, v13, v14, v15, .pointer (some ⟨k16, 0, none⟩), .pointer (some ⟨k17, 0, none⟩), v18, .func (.func gf) #[] lb, v20, v21, v22, v23, v24, v25, v26, v27, v28, v29, v30, v31, v32, v33, v34, v35, v36, v37, v38, v39, v40, v41, v42, v43, v44, v45, v46, v47, v48, v49, v50, v51, v52, v53, v54, v55, v56, v57, v58, v59, v60, v61, v62, v63, v64, v65, v66, v67, v68, v69, v70, v71, v72, v73, v74, v75, v76, v77, v78, v79, v80, v81, v82, v83, v84, v85, v86, v87, v88, v89, v90, v91, v92, v93, v94, v95, v96, v97, v98, v99, v100, v101, v102, v103, v104, v105, v106, v107, v108, v109, v110, v111, v112, v113, v114, v115, v116, v117, v118, v119, v120, v121, v122, v123, v124, v125, v126, v127, v128, v129, v130, v131, v132, v133, v134, v135, v136, v137, v138, v139, v140, v141, v142, v143, v144, v145, v146, v147, v148, v149, v150, v151, v152, v153, v154, v155, v156, v157, v158, v159, v160, v161, v162, v163, v164, v165, v166, v167, v168, v169, v170], []⟩ X := by
  obtain ⟨X1, hX1⟩ : ∃ Y, X.alloc (.cells #[.int .i64 0] 3) = Y := ⟨_, rfl⟩
  obtain ⟨k20, hk20⟩ : ∃ k, X.heap.size = k := ⟨_, rfl⟩
  have b1 : Below X.heap.size X X1 := by rw [← hX1]; exact (Below.refl _ X).alloc (Nat.le_refl _) _
  have rn : X1.heap[k20]? = some (.cells #[.int .i64 0] 3 (0, 0)) := by rw [← hX1, ← hk20]; exact heap_alloc_new _ _
  have s1 : X1.heap.size = k20 + 1 := by rw [← hX1, ← hk20]; simp
  obtain ⟨gf', lb', Da, hfv, heg, hDa, hit⟩ := hE
  injection hfv with q1 q2 q3
  injection q1 with q1
  subst q1 q3
  have HW := mkHid (And.intro hw (And.intro r16 (And.intro r17 (And.intro i1 (And.intro i2 (And.intro hm (And.intro hlen (And.intro heg (And.intro hDa (And.intro hit (And.intro b1 (And.intro rn (And.intro s1 hk20)))))))))))))
  have hWW := mkHid hX1
  clear hw r16 r17 i1 i2 hm hlen heg hDa hit b1 rn s1 hX1 q2
  conv => arg 2; whnf
  go_wp2_with fail
  rw [hWW.out]
  rename_i Q0 K0 hk0
  refine wpIn_wide.1 (Rm.loop_out (F := Fence.wide) (n := 9) rfl (by decide) (gf := gf) (lb := lb) rfl trivial HW.out.2.2.2.2.2.2.2.1 HW.out.2.2.2.2.2.2.2.2.2.1 HW.out.2.2.2.2.2.2.2.2.1 HW.out.2.2.2.2.2.2.2.2.2.2.1 (fun i x W l o o' h _ _ => h) (fun i x W l o o' h _ _ => trivial) (fun i x W h => by obtain ⟨_, _, rfl⟩ := h; rfl)
    (fun i X' U => RnB X1 k20 i X' U) (fun _ _ _ => False) (fun k => k = k20) ?hI ?hIx ⟨Rm.Agr.refl _ _, HW.out.2.2.2.2.2.2.2.2.2.2.2.1, fun _ => Iff.rfl⟩ ?hX0 ?hX1 ?round ?done ?stop)
  case hI =>
    rintro i X' A B h hg
    exact h.keep (by have := HW.out.2.2.2.2.2.2.2.2.2.2.2.2.1; omega) hg
  case hIx => exact fun _ _ _ _ h _ => h
  case hX0 => rintro k rfl; have := HW.out.2.2.2.2.2.2.2.2.2.2.2.2.1; omega
  case hX1 =>
    rintro k rfl hk
    have h1 := HW.out.2.2.2.2.2.2.2.2.1 _ hk
    have h2 := HW.out.2.2.2.2.2.2.2.2.2.2.2.2.2
    omega
  case stop => exact fun _ _ _ h => h.elim
  case round =>
    rintro l i x X' U hi ⟨p, hp, rfl⟩
    gi_wp2
    refine ⟨trivial, fun U2 hl hlw hlz hI hv2 hH hXl => ?_⟩
    obtain ⟨hw, r16, r17, i1, i2, hm, hlen, -, -, -, b1, rn, s1, hk20⟩ := HW.out
    have hk : k20 < X1.heap.size := by omega
    have hmi : i < m := by omega
    have n16 : k16 ≠ k20 := by have := (Array.getElem?_eq_some_iff.1 r16).1; omega
    have n17 : k17 ≠ k20 := by have := (Array.getElem?_eq_some_iff.1 r17).1; omega
    have e16 := hI.cell (cell_belowX b1 ((cell_of_row _ _ _ _ _ _ r16).trans (rfl : (#[Value.slice o1 m c1])[0]? = some (.slice o1 m c1)))) n16
    have e17 := hI.cell (cell_belowX b1 ((cell_of_row _ _ _ _ _ _ r17).trans (rfl : (#[Value.slice o2 m c2])[0]? = some (.slice o2 m c2)))) n17
    have e20 : U2.cell? ⟨k20, 0, none⟩ = some (.int .i64 (i : Int)) := (cell_of_row _ _ _ _ _ _ hI.cnt).trans rfl
    have f20 : U2.frozen? ⟨k20, 0, none⟩ = false := frozen_of_row _ _ _ _ _ hI.cnt
    obtain ⟨oa, ca, ea, ha⟩ := i1
    obtain ⟨ob, cb, eb, hb⟩ := i2
    rw [List.length_map] at ha hb
    obtain ⟨offa, rfl, hga, hca⟩ := ha (by omega)
    obtain ⟨offb, rfl, hgb, hcb⟩ := hb (by omega)
    injection ea with ea1 ea2 ea3
    injection eb with eb1 eb2 eb3
    subst ea1 eb1
    have d1 := hI.cell (cell_belowX b1 (hca i (by omega))) (by omega)
    have d2 := hI.cell (cell_belowX b1 (hcb i (by omega))) (by omega)
    have v1 : (L.map Prod.fst).getD i 0 = p.1 := by simp [List.getD, hp]
    have v2 : (L.map Prod.snd).getD i 0 = p.2 := by simp [List.getD, hp]
    rw [v1] at d1
    rw [v2] at d2
    obtain ⟨q1, q2, q3⟩ := hI.next hk
    have ec : ((i + 1 : Nat) : Int) = (i : Int) + 1 := by omega
    rw [ec] at q1 q2 q3
    have HR := mkHid (And.intro q1 (And.intro q2 q3))
    have j0 := geI i
    have j1 := ltI hmi
    have j2 : ¬ (m : Int) ≤ (i : Int) := by omega
    have wi := addI1 (d := i) (by omega)
    clear hw r16 r17 hm hlen b1 rn s1 hk20 hk hmi n16 n17 ea2 ea3 eb2 eb3 hca hcb ha hb hga hgb v1 v2 q1 q2 q3 hlw hlz hH hXl hl hI hv2
    gi_wp2
    exact ⟨X', HR.out.1, HR.out.2.1, HR.out.2.2, trivial⟩
  case done =>
    intro X' U h hF hG hK
    obtain ⟨hw, r16, r17, i1, i2, hm, hlen, -, -, -, b1, rn, s1, hk20⟩ := HW.out
    have bXU : Below X.heap.size X U := ⟨h.agr.os.trans b1.os, h.agr.tape.trans b1.tape, h.agr.output.trans b1.output, Nat.le_trans b1.size h.agr.size, fun k hk => (h.agr.blk k (by omega) ⟨by omega, by omega⟩).trans (b1.block k hk)⟩
    have hU := hw.below bXU
    have u16 := (bXU.block _ (Array.getElem?_eq_some_iff.1 r16).1).trans r16
    have u20 := h.cnt
    rw [← hm] at u20
    have hKs := (Array.getElem?_eq_some_iff.1 hK).1
    have hRX := (Array.getElem?_eq_some_iff.1 hw.res).1
    have hWX := hw.bel.size
    have fin : ∀ (t : Array Value) (Y : World), Below W.heap.size W Y → Rm.Agr (fun k => k < U.heap.size ∧ k ≠ kR) U Y → Y.heap[kR]? = some (.cells #[.bool true] 4 (0, 0)) → t[8]? = some (.pointer (some ⟨kR, 0, none⟩)) → (bodyPostM Fence.wide 9 Try.prog Try.f4 (fun e w' => e = .returned (.bool true) ∧ Below W.heap.size W w')) .ret ⟨t, [{ target := .collected X1.heap.size, args := #[] }]⟩ Y := by
      intro t Y hb hA hr ht
      have hY : Y.heap[X1.heap.size]? = some (.deferred (some [])) := (hA.blk _ hKs ⟨hKs, by omega⟩).trans hK
      refine ⟨by simp, .inl ⟨_, _, rfl, run_takeDeferred hY, ?_⟩⟩
      refine ⟨.bool true, results_cell8 ht ((World.putObj_heap_other (by omega)).trans hr), rfl, below_put hb (by omega) _⟩
    exact hk0 _ _ (lr20 W U hU u16 u20 (fun L e h => wy_short h) fin)
end Go.Proofs.Ytgedmfcfhdfoeaa
