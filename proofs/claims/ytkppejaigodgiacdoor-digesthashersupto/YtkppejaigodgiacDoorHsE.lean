/- DigestHashers: the last loop. -/
import Derived.Test.YtkppejaigodgiacDoorHsC
namespace Go.Proofs.YtkppejaigodgiacDoor.Hash
open Go.RowKit Go.Proofs.YtkppejaigodgiacDoor.Sha
def hdC : Code → Option Nat
  | .region id _ _ => some id
  | .seq a _ => hdC a
  | .scope c => hdC c
  | .block _ c => hdC c
  | _ => none
def frC (n : Nat) : Code → Option Code
  | .seq a b => if hdC a = some n then some (.seq a b) else match frC n a with
    | some c => some (.seq c b)
    | none => frC n b
  | .scope c => frC n c
  | _ => none
noncomputable def tail4 : Code := ((Tryd.f4.body.bind (frC 36)).getD .skip)
theorem size25 : (Tryd.prog.info? 25).map (·.size) = some 32 := by kernel_rfl
theorem eq25 (w : World) (a : List Nat) (ha : a.length = 32) : (Op.equalIn 10000 25 (.agg (bs a)) (.agg (bs a))).run Tryd.prog w = .ok true w := by
  rw [run_equalIn_bs w 9998 Tryd.underlying25 Tryd.underlying5 size5 a a ha ha]; simp
theorem at_dst {ops : Array Oper} {j d : Nat} (h : (ops[j]?).bind (·.dst) = some d) : ∃ o, ops[j]? = some o ∧ o.dst = some d := by
  cases hc : ops[j]? with
  | none => rw [hc] at h; cases h
  | some o => rw [hc] at h; exact ⟨o, rfl, h⟩
/-- The tables lie, where the walk began. -/
structure Tt (w0 : World) (N : Nat) : Prop where
  b : Tb w0
  r : Tr w0
  n : 3 < N
set_option maxRecDepth 100000 in
set_option maxHeartbeats 3200000 in
theorem tailE (N bA bB n cA cB : Nat) (A Bk : List Nat) (ms : List (List Nat)) (hn : A.length = n) (hn1 : n ≤ 2097152) (hM : Mok 1048576 ms) (w0 : World) (ht : Tt w0 N) (v0 v1 v2 v5 v6 v7 v8 v9 v10 v11 v12 v13 v14 v15 v16 v17 v18 v19 v20 v21 v22 v23 v24 v25 v26 v27 v28 v29 v30 v31 v32 v33 v34 v35 v36 v37 v38 v39 v40 v41 v42 v43 v44 v45 v46 v47 v48 v49 v50 v51 v52 v53 v54 v55 v56 v57 v58 v59 v60 v61 v62 v63 v64 v65 v66 v67 v68 v69 v70 v71 v72 v73 v74 v75 v76 v77 v78 v79 v80 v81 v82 v83 v84 v85 v86 v87 v88 v89 v90 v91 v92 v93 v94 v95 v96 v97 v98 v99 v100 v101 v102 v103 v104 v105 v106 v107 v108 v109 v110 v111 v112 v113 v114 v115 v116 v117 v118 v119 v120 v121 v122 v123 v124 v125 v126 v127 v128 v129 v130 v131 v132 v133 v134 v135 v136 v137 v138 v139 v140 v141 v142 v143 v144 v145 v146 v147 v148 v149 v150 v151 v152 v153 v154 v155 v156 v157 v158 v159 v160 v161 v162 v163 v164 v165 v166 v167 v168 v169 v170 v171 v172 v173 v174 v175 v176 v177 : Value) (w : World)
    (H : Hid (Hq N (.slice (some ⟨bA, 0, none⟩) n cA) (.slice (some ⟨bB, 0, none⟩) n cB) A Bk ms w)) (HB : Hid (Below N w0 w)) (R : Ending → World → Prop) (hR : Hid (∀ w', Below N w0 w' → R (.returned (.bool true)) w')) :
    Code.wp Tryd.prog tail4 (bodyPost Tryd.prog Tryd.f4 R) ⟨#[v0, v1, v2, .slice (some ⟨bA, 0, none⟩) n cA, .slice (some ⟨bB, 0, none⟩) n cB, v5, v6, v7, v8, v9, v10, v11, v12, v13, v14, v15, v16, v17, v18, v19, v20, v21, v22, v23, v24, v25, v26, v27, v28, v29, v30, v31, v32, v33, v34, v35, v36, v37, v38, v39, v40, v41, v42, v43, v44, v45, v46, v47, v48, v49, v50, v51, v52, v53, v54, v55, v56, v57, v58, v59, v60, v61, v62, v63, v64, v65, v66, v67, v68, v69, v70, v71, v72, v73, v74, v75, v76, v77, v78, v79, v80, v81, v82, v83, v84, v85, v86, v87, v88, v89, v90, v91, v92, v93, v94, v95, v96, v97, v98, v99, v100, v101, v102, v103, v104, v105, v106, v107, v108, v109, v110, v111, v112, v113, v114, v115, v116, v117, v118, v119, v120, v121, v122, v123, v124, v125, v126, v127, v128, v129, v130, v131, v132, v133, v134, v135, v136, v137, v138, v139, v140, v141, v142, v143, v144, v145, v146, v147, v148, v149, v150, v151, v152, v153, v154, v155, v156, v157, v158, v159, v160, v161, v162, v163, v164, v165, v166, v167, v168, v169, v170, v171, v172, v173, v174, v175, v176, v177], []⟩ w := by
  conv => arg 2; whnf
  go_wp2_with fail
  go_loopw [11] (fun i wr => ∃ k : Nat, i = .int .i64 (k : Int) ∧ k ≤ n ∧ Hid (Hq N (.slice (some ⟨bA, 0, none⟩) n cA) (.slice (some ⟨bB, 0, none⟩) n cB) A Bk ms wr) ∧ Hid (Below N w0 wr)) (fun i _ => n - (intOf i).toNat)
  case atStart => exact ⟨0, rfl, by omega, H, HB⟩
  case round =>
    clear H HB
    obtain ⟨k, rfl, hk, H, HB⟩ := hrel
    by_cases hlt : k < n
    · have hk0 : (0 : Int) ≤ (k : Int) := by omega
      have hk1 : (k : Int) < (n : Int) := by omega
      obtain ⟨g, b, m, d0, hg, hb, hm, _, _, _, _⟩ := H.out.at k (by omega)
      have hmb := hM m (List.mem_of_getElem? hm)
      go_wp2_with fail
      obtain ⟨S, hS⟩ : ∃ S : World → Prop, S = fun W => Hq N (.slice (some ⟨bA, 0, none⟩) n cA) (.slice (some ⟨bB, 0, none⟩) n cB) A Bk ms W ∧ Below N w0 W := ⟨_, rfl⟩
      have hSd : S wr.drew := by rw [hS]; exact ⟨H.out.below (Below.refl _ wr).drew, HB.out.trans (Below.refl _ wr).drew⟩
      have hSb : ∀ W W', S W → Below W.heap.size W W' → S W' := fun W W' h hb => by
        rw [hS] at h ⊢
        exact ⟨h.1.below hb, h.2.trans (hb.mono (by obtain ⟨⟨_, _, h⟩, _⟩ := h; exact h.sz))⟩
      have hS1 : ∀ W, S W → Hq N (.slice (some ⟨bA, 0, none⟩) n cA) (.slice (some ⟨bB, 0, none⟩) n cB) A Bk ms W ∧ Below N w0 W := fun W h => by rw [hS] at h; exact h
      have hat : ∀ W, S W → ∃ d, Tk m g W ∧ Rk N m b d W ∧ W.cell? ⟨bA, k, none⟩ = some (.pointer (some ⟨g, 0, none⟩)) ∧ W.cell? ⟨bB, k, none⟩ = some (.pointer (some ⟨b, 0, none⟩)) := fun W h => by
        obtain ⟨⟨ds, O, hv⟩, _⟩ := hS1 W h
        obtain ⟨d, hd⟩ := get_of hv.ld hg
        exact ⟨d, hv.tk k g m hg hm, hv.rk k b d m hb hd hm, Hv.cellA hv hg, Hv.cellB hv hb⟩
      clear hS
      refine wp_region_rel (ops := reg39) (V := V39 (sha m) n k g b bA bB cA cB m.length) (S := S) (T := fun u u' => Below u.heap.size u u') (by kernel_rfl) (V39_stab _ _ _ _ _ _ _ _ _ _) (fun i o ho => (okR_at okR39 ho).1) (fun i j o oj d ho hj h2 h3 => (okR_at okR39 ho).2.2 j oj d hj h2 h3) (fun i o d ho h => (okR_at okR39 ho).2.1 d h)
        (step39 _ (sha m) n k g b bA bB cA cB m.length S _ rfl rfl rfl hk0 hk1 hSb (fun W h => (hat W h).choose_spec.2.2.1) (fun W h => (hat W h).choose_spec.2.2.2) (fun W => eq25 W _ (sha_len m))
          (fun W h => sum_tb g m (by omega) W (ht.b.below (hS1 W h).2 ht.n) (hat W h).choose_spec.1)
          (fun W h => sumR N m hmb.1 b _ W (hat W h).choose_spec.2.1 (by omega) (ht.r.below (hS1 W h).2 ht.n) (ht.b.below (hS1 W h).2 ht.n).sz)
          (fun W h => len_tb g m W (hat W h).choose_spec.1) (fun W h => lenR N m b _ W (hat W h).choose_spec.2.1)) hSd ?_
      intro X W2 hS2 hX
      have H2 : Hid (Hq N (.slice (some ⟨bA, 0, none⟩) n cA) (.slice (some ⟨bB, 0, none⟩) n cB) A Bk ms W2) := (hS1 _ hS2).1
      have B2 : Hid (Below N w0 W2) := (hS1 _ hS2).2
      obtain ⟨o23, ho23, hd23⟩ := at_dst (ops := reg39) (j := 23) (d := 177) (by kernel_rfl)
      have e23 : X 23 = .bool false := hX 23 o23 177 ho23 hd23
      rw [put39, e23]
      clear hX e23 hS1 hSb hS2 hSd hat H HB
      go_wp2
      exact ⟨⟨k + 1, by rfl, by omega, H2, B2⟩, by simp only [intOf]; omega⟩
    · have hk1 : ¬ ((k : Int) < (n : Int)) := by omega
      go_wp2
      exact hR.out _ HB.out
end Go.Proofs.YtkppejaigodgiacDoor.Hash
