/- RecipeSwapped: the law. -/
import Derived.Test.YtceclpabdfncoaaDoorRwV
namespace Go.Proofs.YtceclpabdfncoaaDoor.Re
open Go.RowKit
/-- Two arguments more. -/
theorem add2 {base : Nat} {X : World} {rb : Nat} {o n s a e : Value} {us : List Value} {R : Rcp} (tw : Tw base X o n s a e us R) (sp : Sepa s a us) (row : X.heap[rb]? = some (.cells (rV o n s R.sys R.bld a e) 33 (0, 0))) (hb : base ≤ rb) (hl : R.a.length < 10000) (t1 t2 : S) :
    ∃ a' n' c' V Z, (apS 22 #[a, .slice (some ⟨X.heap.size, 0, none⟩) 2 2]).run Tryd.prog (X.alloc (.cells #[.string t1, .string t2] 9)) = .ok (.slice a' n' c') V ∧ V.cell? ⟨rb, 5, none⟩ = some a ∧ V.frozen? ⟨rb, 5, none⟩ = false ∧ V.setCell ⟨rb, 5, none⟩ (.slice a' n' c') = Z ∧ Z.heap[rb]? = some (.cells (rV o n s R.sys R.bld (.slice a' n' c') e) 33 (0, 0)) ∧ Rc Z o n s (.slice a' n' c') e { R with a := R.a ++ [t1, t2] } ∧ Below base X Z := by
  have hr := (Array.getElem?_eq_some_iff.1 row).1
  have hX : Below X.heap.size X (X.alloc (.cells #[.string t1, .string t2] 9)) := gr1 (Below.refl _ X) _
  have tw1 := tw.below hX
  have row1 := (hX.block rb hr).trans row
  obtain ⟨v2, V, r2, p2⟩ := run_apS (X.alloc (.cells #[.string t1, .string t2] 9)) base a (.slice (some ⟨X.heap.size, 0, none⟩) 2 2) _ (([t1, t2] : List S).map sR) tw1.fa (ls_two X t1 t2) (by unfold MX; simp; omega) (by have := hX.size; omega)
  obtain ⟨a2, c2, e2, -⟩ := p2.1.form
  subst e2
  have g := p2.2.1
  have kp : ∀ {e' sz : Nat} {v : Value} {l : List (Array Value)}, Ol base e' sz (X.alloc (.cells #[.string t1, .string t2] 9)) v l → (∀ k, a.ownBlock = some k → v.ownBlock ≠ some k) → Ol base e' sz V v l := fun {e' sz v l} ho hn => ho.keep fun k hk => g.block k (ho.tag hk).2.1 (fun z => hn k z.symm hk)
  have ne : ∀ {e' sz : Nat} {v : Value} {l : List (Array Value)}, Ol base e' sz (X.alloc (.cells #[.string t1, .string t2] 9)) v l → e' ≠ 9 → ∀ k, a.ownBlock = some k → v.ownBlock ≠ some k := fun {e' sz v l} ho he k h1 h2 => by
    obtain ⟨_, _, cur, hc⟩ := tw1.fa.tag h1
    obtain ⟨_, _, cur', hc'⟩ := ho.tag h2
    exact tag_ne hc' hc he rfl
  have rV1 : V.heap[rb]? = _ := (g.block rb (Nat.lt_of_lt_of_le hr hX.size) (fun z => by
    obtain ⟨_, _, cur, hc⟩ := tw1.fa.tag z.symm
    exact tag_ne row1 hc (by decide) rfl)).trans row1
  have rk : ∀ {e' sz : Nat} {v : Value} {l : List (Array Value)}, Ol base e' sz V v l → e' ≠ 33 → Ol base e' sz (V.setCell ⟨rb, 5, none⟩ (.slice a2 ((R.a.map sR ++ ([t1, t2] : List S).map sR).length) c2)) v l := fun {e' sz v l} ho he => ho.keep fun k hk => by
    obtain ⟨_, _, cur, hc⟩ := ho.tag hk
    exact heap_setCell_other _ _ _ _ (by show k ≠ rb; exact tag_ne hc rV1 he)
  refine ⟨a2, _, c2, V, _, r2, c1 rV1 rfl, frozen_of_row _ _ _ _ _ rV1, rfl, heap_setCell_same _ _ _ _ _ _ rV1, ⟨?_, ⟨us, tw.ul, ?_, ?_⟩, ?_, ?_, ?_⟩, ?_⟩
  · exact (rk (kp tw1.fo (ne tw1.fo (by decide))) (by decide)).ls
  · exact (rk (kp tw1.fn (ne tw1.fn (by decide))) (by decide)).ls
  · intro i x u h1 h2
    exact (rk (kp (tw1.each i x u h1 h2) (fun k h3 => (sp k h3).2 i u h2)) (by decide)).ls
  · exact (rk (kp tw1.fs (fun k h3 => (sp k h3).1)) (by decide)).ls
  · show Ls _ _ 1 ((R.a ++ [t1, t2]).map sR)
    rw [List.map_append]
    exact (rk p2.1 (by decide)).ls
  · exact (rk (kp tw1.fe (ne tw1.fe (by decide))) (by decide)).ls
  · have nb : Below base X V := ⟨g.os.trans hX.os, g.tape.trans hX.tape, g.output.trans hX.output, Nat.le_trans hX.size g.size, fun k hk => (g.block k (by have := hX.size; omega) (fun z => by have := (tw1.fa.tag z.symm).1; omega)).trans (hX.block k (by omega))⟩
    exact nb.setCell (by show base ≤ rb; exact hb) _
/-- What right has left is laid into a new variable. -/
theorem lay_T {W0 Y : World} {o n s a e : Value} {us : List Value} {Q : Rcp} (tw : Tw W0.heap.size Y o n s a e us Q) :
    ∃ Z', (stR (.pointer (some ⟨Y.heap.size, 0, none⟩)) (.agg (rV o n s Q.sys Q.bld a e))).run Tryd.prog (Y.alloc (.cells #[.slice none 0 0, .slice none 0 0, .slice none 0 0, .string ⟨#[]⟩, .string ⟨#[]⟩, .slice none 0 0, .slice none 0 0] 33)) = .ok () Z' ∧ Z'.heap[Y.heap.size]? = some (.cells (rV o n s Q.sys Q.bld a e) 33 (0, 0)) ∧ Below Y.heap.size Y Z' ∧ Tw W0.heap.size Z' o n s a e us Q := by
  have hb : Below Y.heap.size Y ((Y.alloc (.cells zR 33)).setRow Y.heap.size (rV o n s Q.sys Q.bld a e)) := below_setRow (gr1 (Below.refl _ Y) _) (Nat.le_refl _) _
  exact ⟨_, st_R _ _ zR _ rfl rfl (tw.one _ _) (heap_alloc_new _ _), setRow_heap _ _ _ _ _ _ (heap_alloc_new _ _), hb, tw.below hb⟩
set_option maxRecDepth 100000 in
theorem sizeHa : (Tryd.prog.info? 27).map (·.size) = some 20 := by kernel_rfl
def stHa (p v : Value) : Sem Unit := Instr.storeAt 27 p v
theorem toStHa (p v : Value) : Instr.storeAt 27 p v = stHa p v := rfl
def bdHa (ps : Array (Nat × Value)) : Sem Value := Instr.build 27 ps
theorem toBdHa (ps : Array (Nat × Value)) : Instr.build 27 ps = bdHa ps := rfl
set_option maxRecDepth 100000 in
theorem built_h1 (a : Nat) : Tryd.prog.built 27 [(0, .int .u8 (a : Int)), (1, .int .u8 1)] = some (bs (hsh a 1)) := by kernel_rfl
set_option maxRecDepth 100000 in
theorem built_h2 (a : Nat) : Tryd.prog.built 27 [(0, .int .u8 (a : Int)), (1, .int .u8 2)] = some (bs (hsh a 2)) := by kernel_rfl
theorem bd_h1 (w : World) (a : Nat) : (bdHa #[(0, .int .u8 (a : Int)), (1, .int .u8 1)]).run Tryd.prog w = .ok (.agg (bs (hsh a 1))) w := run_build w 27 _ _ (built_h1 a)
theorem bd_h2 (w : World) (a : Nat) : (bdHa #[(0, .int .u8 (a : Int)), (1, .int .u8 2)]).run Tryd.prog w = .ok (.agg (bs (hsh a 2))) w := run_build w 27 _ _ (built_h2 a)
set_option maxRecDepth 100000 in
theorem st_newH (W : World) (Z : List Nat) (hZ : Z.length = 20) : ∃ X, (stHa (.pointer (some ⟨W.heap.size, 0, none⟩)) (.agg (bs Z))).run Tryd.prog (W.alloc (.cells #[.int .u8 0, .int .u8 0, .int .u8 0, .int .u8 0, .int .u8 0, .int .u8 0, .int .u8 0, .int .u8 0, .int .u8 0, .int .u8 0, .int .u8 0, .int .u8 0, .int .u8 0, .int .u8 0, .int .u8 0, .int .u8 0, .int .u8 0, .int .u8 0, .int .u8 0, .int .u8 0] 27)) = .ok () X ∧ X.heap[W.heap.size]? = some (.cells (bs Z) 27 (0, 0)) ∧ Below W.heap.size W X ∧ X.heap.size = W.heap.size + 1 := by
  have hz : (#[.int .u8 0, .int .u8 0, .int .u8 0, .int .u8 0, .int .u8 0, .int .u8 0, .int .u8 0, .int .u8 0, .int .u8 0, .int .u8 0, .int .u8 0, .int .u8 0, .int .u8 0, .int .u8 0, .int .u8 0, .int .u8 0, .int .u8 0, .int .u8 0, .int .u8 0, .int .u8 0] : Array Value) = bs (List.replicate 20 0) := by kernel_rfl
  have hg : (W.alloc (.cells #[.int .u8 0, .int .u8 0, .int .u8 0, .int .u8 0, .int .u8 0, .int .u8 0, .int .u8 0, .int .u8 0, .int .u8 0, .int .u8 0, .int .u8 0, .int .u8 0, .int .u8 0, .int .u8 0, .int .u8 0, .int .u8 0, .int .u8 0, .int .u8 0, .int .u8 0, .int .u8 0] 27)).heap[W.heap.size]? = some (.cells (bs (List.replicate 20 0)) 27 (0, 0)) := by rw [hz]; exact heap_alloc_new _ _
  refine ⟨_, ?_, setRow_heap _ _ _ _ _ _ hg, below_setRow ((Below.refl _ W).alloc (Nat.le_refl _) _) (Nat.le_refl _) _, by simp [World.setRow]⟩
  unfold stHa
  simp only [Instr.storeAt, Instr.sureAddr, Sem.run_bind, Sem.run_pure, Result.andThen_ok, run_storeVar_row _ _ 27 27 (bs (List.replicate 20 0)) (bs Z) hg (by rw [sizeHa, bs_size, hZ]) (by rw [bs_size, bs_size, hZ]; rfl) (bs_one Z)]
theorem byl_hash {w : World} {g a b : Nat} (h : w.heap[g]? = some (.cells (bs (hsh a b)) 27 (0, 0))) : Byl (.slice (some ⟨g, 0, none⟩) 20 20) (hsh a b) w := byl_row h (by simp [maxLen, hsh])
section
attribute [local go_sem ↓] toLdSp toLdR toStR toApS
set_option maxRecDepth 100000 in
set_option maxHeartbeats 6400000 in
theorem sd3 (W A0 : World) (C : Array Value) (bx ga gb a b : Nat) (nv sv iv av kv : Value) (p : Sp) (hC : C = spV nv sv iv av kv p) (hs : SpH W nv sv iv av kv p) (ha : a < 256) (hb : b < 256) (bA : Below W.heap.size W A0) (hbx : A0.heap[bx]? = some (.cells C 25 (0, 0)))
    (y1 : Byl (.slice (some ⟨ga, 0, none⟩) 20 20) (hsh a 1) A0) (y2 : Byl (.slice (some ⟨gb, 0, none⟩) 20 20) (hsh b 2) A0) {v0 v1 v2 v4 v5 v6 v9 v10 v11 v12 v13 v14 v15 v16 v17 v18 v19 v20 v21 v22 v23 v24 v25 v26 v27 v28 v29 v30 v31 v32 v33 v34 v35 v36 v37 v38 v39 v40 v41 v42 v43 v44 v45 v46 v47 v48 v49 v50 v51 v52 v53 v54 v55 v56 v57 v58 v59 v60 v61 v62 v63 v64 v65 v66 v67 v68 v69 v70 v71 v72 v73 v74 v75 v76 v77 v78 v79 v80 v81 v82 v83 v84 v85 v86 v87 v88 v89 v90 v91 v92 v93 v94 v95 v96 v97 v98 v99 v100 v101 v102 v103 v104 v105 v106 v107 v108 v109 v110 v111 v112 v113 v114 v115 v116 v117 v118 v119 v120 v121 v122 v123 v124 v125 v126 v127 v128 v129 v130 v131 v132 v133 v134 v135 v136 v137 v138 v139 v140 v141 v142 v143 v144 v145 v146 v147 v148 v149 v150 v151 v152 v153 v154 v155 v156 v157 v158 v159 v160 v161 v162 v163 v164 v165 v166 v167 v168 v169 v170 v171 : Value} :
    Code.wp Tryd.prog (tlF Tryd.f3 3) (bodyPost Tryd.prog Tryd.f3 (fun e w' => e = .returned (.bool true) ∧ Below W.heap.size W w')) ⟨#[v0, v1, v2, .pointer (some ⟨bx, 0, none⟩), v4, v5, v6, .pointer (some ⟨ga, 0, none⟩), .pointer (some ⟨gb, 0, none⟩), v9, v10, v11, v12, v13, v14, v15, v16, v17, v18, v19, v20, v21, v22, v23, v24, v25, v26, v27, v28, v29, v30, v31, v32, v33, v34, v35, v36, v37, v38, v39, v40, v41, v42, v43, v44, v45, v46, v47, v48, v49, v50, v51, v52, v53, v54, v55, v56, v57, v58, v59, v60, v61, v62, v63, v64, v65, v66, v67, v68, v69, v70, v71, v72, v73, v74, v75, v76, v77, v78, v79, v80, v81, v82, v83, v84, v85, v86, v87, v88, v89, v90, v91, v92, v93, v94, v95, v96, v97, v98, v99, v100, v101, v102, v103, v104, v105, v106, v107, v108, v109, v110, v111, v112, v113, v114, v115, v116, v117, v118, v119, v120, v121, v122, v123, v124, v125, v126, v127, v128, v129, v130, v131, v132, v133, v134, v135, v136, v137, v138, v139, v140, v141, v142, v143, v144, v145, v146, v147, v148, v149, v150, v151, v152, v153, v154, v155, v156, v157, v158, v159, v160, v161, v162, v163, v164, v165, v166, v167, v168, v169, v170, v171], []⟩ A0 := by
  obtain ⟨x, ex⟩ : ∃ x, x = hx a 1 := ⟨_, rfl⟩
  obtain ⟨y, ey⟩ : ∃ y, y = hx b 2 := ⟨_, rfl⟩
  have zx : x.size = 32 := by rw [ex, hx_size]
  have zy : y.size = 32 := by rw [ey, hx_size]
  have HXY : Hid (W32 x ∧ W32 y ∧ x ≠ y) := ⟨ex ▸ w_hx a 1, ey ▸ w_hx b 2, by rw [ex, ey]; exact hx_ne ha hb⟩
  have txW : Tx A0 := hs.tx.below bA hs.tx.sz
  have HB1 : Hid (Calls Tryd.prog 4 #[.slice (some ⟨ga, 0, none⟩) 20 20] A0 fun e w' => e = .returned (.string x) ∧ Below A0.heap.size A0 w') := by
    have := b32C_any (hsh a 1) (byt_hsh ha (by omega)) (by simp [hsh]) _ A0 y1 txW
    rw [txt_hx, ← ex] at this
    exact this
  have HB2 : Hid (∀ Y, Below A0.heap.size A0 Y → Calls Tryd.prog 4 #[.slice (some ⟨gb, 0, none⟩) 20 20] Y fun e w' => e = .returned (.string y) ∧ Below Y.heap.size Y w') := fun Y bY => by
    have := b32C_any (hsh b 2) (byt_hsh hb (by omega)) (by simp [hsh]) _ Y (y2.keep bY.size (fun j hj => bY.block j hj)) (txW.below bY txW.sz)
    rw [txt_hx, ← ey] at this
    exact this
  have HR : Hid (∀ Y, Below A0.heap.size A0 Y → (ldSp (.pointer (some ⟨bx, 0, none⟩))).run Tryd.prog Y = .ok (.agg C) Y ∧ Calls Tryd.prog 5 #[.agg C] Y (RiP Y)) := fun Y bY => by
    refine ⟨ld_Sp Y bx C (by rw [hC]; rfl) ((bY.block bx (Array.getElem?_eq_some_iff.1 hbx).1).trans hbx), ?_⟩
    rw [hC]
    exact right_any Y _ _ _ _ _ p (hs.below (bA.trans (bY.mono bA.size)))
  have HA : Hid (Below W.heap.size W A0) := bA
  clear ex ey y1 y2 txW bA hbx hs hC ha hb
  conv => arg 2; whnf
  go_wp2_with fail
  with_reducible refine Calls.mono HB1.out ?_
  rintro en Y1 ⟨rfl, b1⟩
  have HC2 : Hid (Calls Tryd.prog 4 #[.slice (some ⟨gb, 0, none⟩) 20 20] Y1 fun e w' => e = .returned (.string y) ∧ Below Y1.heap.size Y1 w') := HB2.out Y1 b1
  have H1 : Hid (Below A0.heap.size A0 Y1) := b1
  clear b1
  go_wp2_with fail
  with_reducible refine Calls.mono HC2.out ?_
  rintro en Y2 ⟨rfl, b2⟩
  have bA2 : Below A0.heap.size A0 Y2 := H1.out.trans (b2.mono H1.out.size)
  obtain ⟨l2, cr⟩ := HR.out Y2 bA2
  have HCR : Hid (Calls Tryd.prog 5 #[.agg C] Y2 (RiP Y2)) := cr
  have H2 : Hid (Below A0.heap.size A0 Y2) := bA2
  clear b2 bA2 cr
  go_wp2_with fail
  with_reducible refine Calls.mono HCR.out ?_
  rintro en Y3 ⟨o, n, s, a, e, us, R, rfl, tw, sp, bn, b3⟩
  obtain ⟨Z0, t0, row0, bb0, tw0⟩ := lay_T tw
  obtain ⟨a', n', c', V, Z, q1, q2, q3, q4, rowZ, rcZ, bZ⟩ := add2 tw0 sp row0 b3.size (by have := bn.a; omega) (⟨#[115, 101, 101, 32]⟩ ++ x ++ ⟨#[32, 97, 110, 100, 32]⟩ ++ y ++ ⟨#[32]⟩ ++ x) ⟨#[110, 111, 110, 101]⟩
  obtain ⟨rb, hrb⟩ : ∃ k, Y3.heap.size = k := ⟨_, rfl⟩
  rw [hrb] at t0 row0 q2 q3 q4 rowZ
  have k0 : Z0.cell? ⟨rb, 5, none⟩ = some a := c1 row0 rfl
  have HX : Hid (Bn R ∧ Z.heap[rb]? = some (.cells (rV o n s R.sys R.bld (.slice a' n' c') e) 33 (0, 0)) ∧ Rc Z o n s (.slice a' n' c') e { R with a := R.a ++ [sen x y, NON] } ∧ Below Y2.heap.size Y2 Z) := ⟨bn, rowZ, rcZ, b3.trans (((bb0.mono b3.size).trans (by rw [← hrb] at *; exact bZ)))⟩
  clear tw sp bn b3 row0 bb0 tw0 rowZ rcZ bZ
  go_upto_region 8 with fail
  rename_i K2 h2
  have HK2 : Hid (∀ q w, Code.wp Tryd.prog (tlF Tryd.f3 9) (bodyPost Tryd.prog Tryd.f3 (fun e w' => e = .returned (.bool true) ∧ Below W.heap.size W w')) q w → K2 q w) := h2
  clear h2
  go_wp2_with fail
  have bn := HX.out.1
  have s1 : (sen x y).size = 106 := by simp [sen, SEE, AND, BLA, zx, zy, ByteArray.size_append]; rfl
  refine HK2.out _ _ (sd9 W Z rb x y o n s _ e { R with a := R.a ++ [sen x y, NON] } R.a HXY.out rfl ⟨⟨?_, ?_, ?_, ?_, ?_, ?_⟩, ?_, ?_, ?_⟩ ?_ HX.out.2.1 HX.out.2.2.1)
  · show R.o.length ≤ _; have := bn.o; omega
  · show R.n.length ≤ _; have := bn.n; omega
  · show R.s.length ≤ _; have := bn.s; omega
  · show (R.a ++ [sen x y, NON]).length ≤ _; have := bn.a; simp; omega
  · show R.e.length ≤ _; have := bn.e; omega
  · intro z hz; have := bn.i z hz; omega
  · have := bn.a; omega
  · intro z hz
    rcases List.mem_append.1 hz with q | q
    · have := bn.al z q; omega
    · simp at q
      rcases q with q | q
      · rw [q, s1]; omega
      · rw [q]; decide
  · intro z hz; have := bn.el z hz; omega
  · exact HA.out.trans ((H2.out.trans (HX.out.2.2.2.mono H2.out.size)).mono HA.out.size)
end
section
attribute [local go_sem ↓] toLdSp toLdR toStR toStHa toBdHa
set_option maxRecDepth 100000 in
set_option maxHeartbeats 6400000 in
theorem swapped_any (W : World) (nv sv iv av kv : Value) (p : Sp) (h : SpH W nv sv iv av kv p) (a b : Nat) (ha : a < 256) (hb : b < 256) : Calls Tryd.prog 3 #[.agg (spV nv sv iv av kv p), .int .u8 (a : Int), .int .u8 (b : Int)] W (fun e w' => e = .returned (.bool true) ∧ Below W.heap.size W w') := by
  obtain ⟨C, hC⟩ : ∃ C : Array Value, C = spV nv sv iv av kv p := ⟨_, rfl⟩
  obtain ⟨A, hA⟩ : ∃ A, W.alloc (.cells C 25) = A := ⟨_, rfl⟩
  obtain ⟨X1, t1, r1, b1, z1⟩ := st_newH A (hsh a 1) rfl
  obtain ⟨X2, t2, r2, b2, -⟩ := st_newH X1 (hsh b 2) rfl
  have e1 := bd_h1 A a
  have e2 := bd_h2 X1 b
  have zA : A.heap.size = W.heap.size + 1 := by rw [← hA]; simp
  have bA : Below W.heap.size W A := by rw [← hA]; exact gr1 (Below.refl _ W) _
  have rA : A.heap[W.heap.size]? = some (.cells C 25 (0, 0)) := by rw [← hA]; exact heap_alloc_new _ _
  have bX2 : Below A.heap.size A X2 := b1.trans (b2.mono b1.size)
  have HA : Hid (Below W.heap.size W X2 ∧ X2.heap[W.heap.size]? = some (.cells C 25 (0, 0)) ∧ X2.heap[A.heap.size]? = some (.cells (bs (hsh a 1)) 27 (0, 0)) ∧ X2.heap[X1.heap.size]? = some (.cells (bs (hsh b 2)) 27 (0, 0))) := ⟨bA.trans (bX2.mono (by omega)), (bX2.block _ (by omega)).trans rA, (b2.block _ (by omega)).trans r1, r2⟩
  have HC : Hid (C = spV nv sv iv av kv p) := hC
  have HS : Hid (SpH W nv sv iv av kv p ∧ a < 256 ∧ b < 256) := ⟨h, ha, hb⟩
  rw [← hC]
  obtain ⟨h1, H1⟩ : ∃ v, bs (hsh a 1) = v := ⟨_, rfl⟩
  obtain ⟨h2, H2⟩ : ∃ v, bs (hsh b 2) = v := ⟨_, rfl⟩
  rw [H1] at t1 e1
  rw [H2] at t2 e2
  clear h hC ha hb r1 r2 b1 b2 bX2 rA bA H1 H2 z1 zA
  go_enter Tryd.func3, Tryd.ntmps3
  go_upto_region 2 with fail
  rename_i K2 h2
  have HK2 : Hid (∀ q w, Code.wp Tryd.prog (tlF Tryd.f3 3) (bodyPost Tryd.prog Tryd.f3 (fun e w' => e = .returned (.bool true) ∧ Below W.heap.size W w')) q w → K2 q w) := h2
  clear h2
  go_wp2_with fail
  exact HK2.out _ _ (sd3 W X2 C W.heap.size A.heap.size X1.heap.size a b nv sv iv av kv p HC.out HS.out.1 HS.out.2.1 HS.out.2.2 HA.out.1 HA.out.2.1 (byl_hash HA.out.2.2.1) (byl_hash HA.out.2.2.2))
end
end Go.Proofs.YtceclpabdfncoaaDoor.Re
