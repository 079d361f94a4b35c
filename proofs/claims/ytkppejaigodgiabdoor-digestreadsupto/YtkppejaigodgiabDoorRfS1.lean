/- The law's hoard, stands: the last two loops. -/
import Derived.Test.YtkppejaigodgiabDoorRfS
namespace Go.Proofs.YtkppejaigodgiabDoor
open Go.RowKit
def hdC : Code → Option Nat
  | .region id _ _ => some id
  | .seq a _ => hdC a
  | .scope c => hdC c
  | .block _ c => hdC c
  | _ => none
def frC (n : Nat) : Code → Option Code
  | .seq a b => if hdC a = some n then some (.seq a b) else match frC n a with
    | some c => some (.seq c b)
    | none => frC n b
  | .scope c => frC n c
  | _ => none
noncomputable def tail26c : Code := ((Tryd.f26.body.bind (frC 23)).getD .skip)
/-- What the last two loops read. -/
structure Cs (g : Nat) (vl vm : Value) (n : Nat) (xs ys : List Value) (ls : List (List Nat)) (w : World) : Prop where
  row : w.cell? ⟨g, 0, none⟩ = some vl
  l : ∃ B, w.ownsRow B 22 1 vl n xs
  m : ∃ B, w.ownsRow B 22 1 vm n ys
  len : ls.length = n
  byx : ∀ (j : Nat) x l, xs[j]? = some x → ls[j]? = some l → Byl x l w
  byy : ∀ (j : Nat) y l, ys[j]? = some y → ls[j]? = some l → Byl y (l ++ List.replicate 64 (101 + j)) w
  flat : ∀ (j : Nat) l, ls[j]? = some l → l.length ≤ 1048576 ∧ ∀ k, k < l.length → l.getD k 0 = j + 1
theorem Cs.at {g : Nat} {vl vm : Value} {n : Nat} {xs ys : List Value} {ls : List (List Nat)} {w : World} (h : Cs g vl vm n xs ys ls w) (i : Nat) (hi : i < n) :
    ∃ x y l, xs[i]? = some x ∧ ys[i]? = some y ∧ ls[i]? = some l := by
  obtain ⟨B, hl⟩ := h.l
  obtain ⟨C, hm⟩ := h.m
  have h1 : xs.length = n := by have := hl.1; omega
  have h2 : ys.length = n := by have := hm.1; omega
  have h3 := h.len
  exact ⟨_, _, _, List.getElem?_eq_getElem (by omega : i < xs.length), List.getElem?_eq_getElem (by omega : i < ys.length), List.getElem?_eq_getElem (by omega : i < ls.length)⟩
set_option maxRecDepth 100000 in
set_option maxHeartbeats 3200000 in
theorem tailC (g : Nat) (ol om : Option Addr) (n cl cm : Nat) (hn : n ≤ 100) (xs ys : List Value) (ls : List (List Nat)) (v1 v2 v3 v4 v5 v7 v8 v9 v10 v11 v12 v13 v14 v15 v16 v17 v18 v19 v20 v21 v22 v23 v24 v25 v26 v27 v28 v29 v30 v31 v32 v33 v34 v35 v36 v37 v38 v39 v40 v41 v42 v43 v44 v45 v46 v47 v48 v49 v50 v51 v52 v53 v54 v55 v56 v57 v58 v59 v60 v61 v62 v63 v64 v65 v66 v67 v68 v69 v70 v71 v72 v73 v74 v75 v76 v77 v78 v79 v80 v81 v82 v83 v84 v85 v86 v87 v88 v89 v90 v91 v92 v93 v94 v95 v96 v97 v98 v99 v100 v101 v102 v103 v104 v105 v106 v107 v108 v109 v110 v111 v112 v113 v114 v115 v116 v117 v118 v119 v120 v121 v122 v123 v124 v125 v126 v127 v128 v129 v130 v131 v132 v133 v134 v135 v136 v137 v138 v139 v140 v141 v142 v143 v144 v145 v146 v147 v148 v149 v150 v151 v152 v153 v154 v155 v156 v157 v158 v159 v160 v161 v162 v163 v164 v165 v166 v167 v168 v169 v170 v171 v172 v173 v174 v175 v176 : Value) (w : World)
    (H : Hid (Cs g (.slice ol n cl) (.slice om n cm) n xs ys ls w)) (R : Ending → World → Prop) (hR : Hid (R (.returned (.bool true)) w)) :
    Code.wp Tryd.prog tail26c (bodyPost Tryd.prog Tryd.f26 R) ⟨#[.pointer (some ⟨g, 0, none⟩), v1, v2, v3, v4, v5, .slice om n cm, v7, v8, v9, v10, v11, v12, v13, v14, v15, v16, v17, v18, v19, v20, v21, v22, v23, v24, v25, v26, v27, v28, v29, v30, v31, v32, v33, v34, v35, v36, v37, v38, v39, v40, v41, v42, v43, v44, v45, v46, v47, v48, v49, v50, v51, v52, v53, v54, v55, v56, v57, v58, v59, v60, v61, v62, v63, v64, v65, v66, v67, v68, v69, v70, v71, v72, v73, v74, v75, v76, v77, v78, v79, v80, v81, v82, v83, v84, v85, v86, v87, v88, v89, v90, v91, v92, v93, v94, v95, v96, v97, v98, v99, v100, v101, v102, v103, v104, v105, v106, v107, v108, v109, v110, v111, v112, v113, v114, v115, v116, v117, v118, v119, v120, v121, v122, v123, v124, v125, v126, v127, v128, v129, v130, v131, v132, v133, v134, v135, v136, v137, v138, v139, v140, v141, v142, v143, v144, v145, v146, v147, v148, v149, v150, v151, v152, v153, v154, v155, v156, v157, v158, v159, v160, v161, v162, v163, v164, v165, v166, v167, v168, v169, v170, v171, v172, v173, v174, v175, v176], []⟩ w := by
  conv => arg 2; whnf
  have c0 : w.cell? ⟨g, 0, none⟩ = some (.slice ol n cl) := H.out.row
  go_wp2_with fail
  go_loopw [10] (fun i wr => ∃ k : Nat, i = .int .i64 (k : Int) ∧ k ≤ n ∧ wr = w) (fun i _ => n - (intOf i).toNat)
  case atStart => exact ⟨0, rfl, by omega, rfl⟩
  case round =>
    obtain ⟨i, rfl, hi, hwr⟩ := hrel
    subst hwr
    by_cases hlt : i < n
    · obtain ⟨x, y, l, hx, hy, hl⟩ := H.out.at i hlt
      obtain ⟨B, hol⟩ := H.out.l
      obtain ⟨C, hom⟩ := H.out.m
      obtain ⟨bl, rfl, _, _, _, hcl⟩ := own_form hol (by omega)
      obtain ⟨bm, rfl, _, _, _, hcm⟩ := own_form hom (by omega)
      obtain ⟨hm1, hm2⟩ := H.out.flat i l hl
      obtain ⟨ox, cx, rfl, hx1, hx2, hx3⟩ := (H.out.byx i x l hx hl).form
      obtain ⟨oy, cy, rfl, hy1, hy2, hy3⟩ := (H.out.byy i y l hy hl).form
      have hylen : (l ++ List.replicate 64 (101 + i)).length = l.length + 64 := by simp
      rw [hylen] at hy hy1 hy3 
      obtain ⟨m, hm⟩ : ∃ m, m = l.length := ⟨_, rfl⟩
      obtain ⟨q, hq⟩ : ∃ q, q = m + 64 := ⟨_, rfl⟩
      rw [← hm] at hx hy hx1 hx3 hy1 hy3 hm1 hm2
      rw [← hq] at hy hy1 hy3
      have ci := hcl i _ hx
      have di := hcm i _ hy
      obtain ⟨p, hp⟩ : ∃ p, p = i + 1 := ⟨_, rfl⟩
      obtain ⟨r, hr⟩ : ∃ r, r = 101 + i := ⟨_, rfl⟩
      have ip : (i : Int) + 1 = (p : Int) := by omega
      have ir : (101 : Int) + (i : Int) = (r : Int) := by omega
      have hp1 : (p : Int) < 256 := by omega
      have hr1 : (r : Int) < 256 := by omega
      have hi0 : (0 : Int) ≤ (i : Int) := by omega
      have hi1 : (i : Int) < (n : Int) := by omega
      obtain ⟨by', oy', rfl, hyb, hyc⟩ := hy3 (by omega)
      have CY : Hid (∀ k, k < q → wr.cell? ⟨by', oy' + k, none⟩ = some (.int .u8 (if k < m then (p : Int) else (r : Int)))) := by
        intro k hk
        rw [hyc k hk]
        congr 1
        congr 1
        by_cases hkm : k < m
        · rw [if_pos hkm, List.getD, List.getElem?_append_left (by omega), ← List.getD, hm2 k hkm, hp]
        · rw [if_neg hkm, List.getD, List.getElem?_append_right (by omega), List.getElem?_replicate, if_pos (by omega), hr]; rfl
      have CX : Hid (0 < m → ∃ b o, ox = some ⟨b, o, none⟩ ∧ ∀ k, k < m → wr.cell? ⟨b, o + k, none⟩ = some (.int .u8 (p : Int))) := by
        intro h0
        obtain ⟨b, o, h1, _, h2⟩ := hx3 h0
        refine ⟨b, o, h1, fun k hk => ?_⟩
        rw [h2 k hk, hm2 k hk, hp]
      have HQ : Hid (q = m + 64) := hq
      have hqs : q ≤ 2000000 := by omega
      clear hq hm hp hr hyc hx3 hy3 hcl hcm hol hom hm2 hx hy hl hylen
      go_wp2_with fail
      go_loopw [12] (fun j wq => ∃ k : Nat, j = .int .i64 (k : Int) ∧ k ≤ q ∧ wq = wr) (fun j _ => q - (intOf j).toNat)
      case atStart => exact ⟨0, rfl, by omega, rfl⟩
      case round =>
        obtain ⟨k, rfl, hk, hwq⟩ := hrel
        subst hwq
        by_cases hkq : k < q
        · have hk0 : (0 : Int) ≤ (k : Int) := by omega
          have hk1 : (k : Int) < (q : Int) := by omega
          have cy' := CY.out k hkq
          by_cases hkm : k < m
          · have hk2 : (k : Int) < (m : Int) := by omega
            rw [if_pos hkm] at cy'
            obtain ⟨b, o, rfl, hcx⟩ := CX.out (by omega)
            have cx' := hcx k hkm
            clear hcx
            go_wp2
            exact ⟨⟨k + 1, by rfl, by omega, trivial⟩, by simp only [intOf]; omega⟩
          · have hk2 : ¬ ((k : Int) < (m : Int)) := by omega
            have hk3 : (m : Int) ≤ (k : Int) := by omega
            rw [if_neg hkm] at cy'
            go_wp2
            exact ⟨⟨k + 1, by rfl, by omega, trivial⟩, by simp only [intOf]; omega⟩
        · have hk1 : ¬ ((k : Int) < (q : Int)) := by omega
          go_wp2
          first | exact ⟨⟨i + 1, by rfl, by omega, trivial⟩, by simp only [intOf]; omega⟩ | exact ⟨⟨p, by rfl, by omega, trivial⟩, by simp only [intOf]; omega⟩
    · have hi1 : ¬ ((i : Int) < (n : Int)) := by omega
      go_wp2
      exact hR.out
end Go.Proofs.YtkppejaigodgiabDoor
