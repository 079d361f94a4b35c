/- The law's hoard, stands: the lists written over. -/
import Derived.Test.YtkppejaigodgiabDoorRfS2
namespace Go.Proofs.YtkppejaigodgiabDoor
open Go.RowKit
noncomputable def tail26a : Code := ((Tryd.f26.body.bind (frC 6)).getD .skip)
/-- The first i lists are written over. -/
def Wr (i : Nat) (ls : List (List Nat)) : Prop := (∀ (j : Nat) l, ls[j]? = some l → l.length ≤ 1048576) ∧ ∀ (j : Nat) l, j < i → ls[j]? = some l → ∀ k, k < l.length → l.getD k 0 = j + 1
theorem wr_set {i : Nat} {ls : List (List Nat)} {l : List Nat} (h : Wr i ls) (hl : ls[i]? = some l) (k v : Nat) : Wr i (ls.set i (l.set k v)) := by
  have hil : i < ls.length := (List.getElem?_eq_some_iff.1 hl).1
  refine ⟨fun j m hm => ?_, fun j m hj hm => ?_⟩
  · by_cases hij : i = j
    · subst hij
      rw [List.getElem?_set_self hil] at hm
      rw [← Option.some.inj hm, List.length_set]
      exact h.1 i l hl
    · rw [List.getElem?_set_ne hij] at hm
      exact h.1 j m hm
  · rw [List.getElem?_set_ne (by omega)] at hm
    exact h.2 j m hj hm
attribute [local go_sem ↓] toApp toAp4
set_option maxRecDepth 100000 in
set_option maxHeartbeats 3200000 in
theorem tailA (g n : Nat) (ol : Option Addr) (cl : Nat) (vw : Value) (hn : n ≤ 100) (xs ws : List Value) (ls : List (List Nat)) (hxn : xs.length = n) (hf : Wr 0 ls) (v1 v2 v3 v4 v5 v6 v7 v8 v9 v10 v11 v12 v13 v14 v15 v16 v17 v18 v19 v20 v21 v22 v23 v24 v25 v26 v27 v28 v29 v30 v31 v32 v33 v34 v35 v36 v37 v38 v39 v40 v41 v42 v43 v44 v45 v46 v47 v48 v49 v50 v51 v52 v53 v54 v55 v56 v57 v58 v59 v60 v61 v62 v63 v64 v65 v66 v67 v68 v69 v70 v71 v72 v73 v74 v75 v76 v77 v78 v79 v80 v81 v82 v83 v84 v85 v86 v87 v88 v89 v90 v91 v92 v93 v94 v95 v96 v97 v98 v99 v100 v101 v102 v103 v104 v105 v106 v107 v108 v109 v110 v111 v112 v113 v114 v115 v116 v117 v118 v119 v120 v121 v122 v123 v124 v125 v126 v127 v128 v129 v130 v131 v132 v133 v134 v135 v136 v137 v138 v139 v140 v141 v142 v143 v144 v145 v146 v147 v148 v149 v150 v151 v152 v153 v154 v155 v156 v157 v158 v159 v160 v161 v162 v163 v164 v165 v166 v167 v168 v169 v170 v171 v172 v173 v174 v175 v176 : Value) (w : World)
    (H : Hid (Kq g (.slice ol n cl) vw xs ws ls w)) (R : Ending → World → Prop) (hR : Hid (∀ w', Hd g (.slice ol n cl) vw xs ws w' → Below g w w' → R (.returned (.bool true)) w')) :
    Code.wp Tryd.prog tail26a (bodyPost Tryd.prog Tryd.f26 R) ⟨#[.pointer (some ⟨g, 0, none⟩), v1, v2, v3, v4, v5, v6, v7, v8, v9, v10, v11, v12, v13, v14, v15, v16, v17, v18, v19, v20, v21, v22, v23, v24, v25, v26, v27, v28, v29, v30, v31, v32, v33, v34, v35, v36, v37, v38, v39, v40, v41, v42, v43, v44, v45, v46, v47, v48, v49, v50, v51, v52, v53, v54, v55, v56, v57, v58, v59, v60, v61, v62, v63, v64, v65, v66, v67, v68, v69, v70, v71, v72, v73, v74, v75, v76, v77, v78, v79, v80, v81, v82, v83, v84, v85, v86, v87, v88, v89, v90, v91, v92, v93, v94, v95, v96, v97, v98, v99, v100, v101, v102, v103, v104, v105, v106, v107, v108, v109, v110, v111, v112, v113, v114, v115, v116, v117, v118, v119, v120, v121, v122, v123, v124, v125, v126, v127, v128, v129, v130, v131, v132, v133, v134, v135, v136, v137, v138, v139, v140, v141, v142, v143, v144, v145, v146, v147, v148, v149, v150, v151, v152, v153, v154, v155, v156, v157, v158, v159, v160, v161, v162, v163, v164, v165, v166, v167, v168, v169, v170, v171, v172, v173, v174, v175, v176], []⟩ w := by
  conv => arg 2; whnf
  have HF : Hid (Wr 0 ls) := hf
  have HX : Hid (xs.length = n) := hxn
  clear hf hxn
  go_wp2_with fail
  go_loopw [4] (fun i wr => ∃ (k : Nat) (ms : List (List Nat)), i = .int .i64 (k : Int) ∧ k ≤ n ∧ Hid (Kq g (.slice ol n cl) vw xs ws ms wr) ∧ Hid (Wr k ms) ∧ Hid (Below g w wr)) (fun i _ => n - (intOf i).toNat)
  case atStart => exact ⟨0, ls, rfl, by omega, H, HF, Below.refl _ _⟩
  case round =>
    clear H HF
    obtain ⟨W1, hW1⟩ : ∃ W1, W1 = wr := ⟨_, rfl⟩
    subst hW1
    obtain ⟨i, ms, rfl, hi, M, HF, BL⟩ := hrel
    have c0 : W1.cell? ⟨g, 0, none⟩ = some (.slice ol n cl) := (cell_of_row W1 g 0 _ _ _ M.out.hd.row).trans rfl
    by_cases hlt : i < n
    · have hxi : i < xs.length := by have := HX.out; omega
      have hli : i < ms.length := by have := M.out.len; omega
      obtain ⟨x, hx⟩ : ∃ x, xs[i]? = some x := ⟨_, List.getElem?_eq_getElem hxi⟩
      obtain ⟨l, hl⟩ : ∃ l, ms[i]? = some l := ⟨_, List.getElem?_eq_getElem hli⟩
      have ho := M.out.own i x l hx hl
      have hlen := HF.out.1 i l hl
      obtain ⟨ox, cx, rfl⟩ := own_slice ho
      obtain ⟨m, hm⟩ : ∃ m, m = l.length := ⟨_, rfl⟩
      rw [← hm] at hx hlen
      obtain ⟨p, hp⟩ : ∃ p, p = i + 1 := ⟨_, rfl⟩
      have ip : (i : Int) + 1 = (p : Int) := by omega
      have hp1 : (p : Int) < 256 := by omega
      have hi0 : (0 : Int) ≤ (i : Int) := by omega
      have hi1 : (i : Int) < (n : Int) := by omega
      have Hp : Hid (p = i + 1) := hp
      have Hx : Hid (xs[i]? = some (.slice ox m cx)) := hx
      have I0 : Hid (∃ ms l, Kq g (.slice ol n cl) vw xs ws ms W1 ∧ Wr i ms ∧ ms[i]? = some l ∧ l.length = m ∧ (∀ j, j < 0 → l.getD j 0 = p) ∧ Below g w W1) := ⟨ms, l, M.out, HF.out, hl, hm.symm, fun j hj => by omega, BL.out⟩
      clear hp hm hx hl ho hxi hli M HF BL
      go_wp2_with fail
      clear c0
      go_loopw [5] (fun j wq => ∃ k : Nat, j = .int .i64 (k : Int) ∧ k ≤ m ∧ Hid (∃ ms l, Kq g (.slice ol n cl) vw xs ws ms wq ∧ Wr i ms ∧ ms[i]? = some l ∧ l.length = m ∧ (∀ j, j < k → l.getD j 0 = p) ∧ Below g w wq)) (fun j _ => m - (intOf j).toNat)
      case atStart => exact ⟨0, rfl, by omega, I0⟩
      case round =>
        clear I0
        obtain ⟨k, rfl, hk, I⟩ := hrel
        obtain ⟨ms, l, M, HF, hl, hll, hlk, hb⟩ := I.out
        have c0 : wr.cell? ⟨g, 0, none⟩ = some (.slice ol n cl) := (cell_of_row wr g 0 _ _ _ M.hd.row).trans rfl
        obtain ⟨bl, rfl, _, _, _, hcl⟩ := own_form M.hd.l (by have := HX.out; omega)
        have ci := hcl i _ Hx.out
        by_cases hkm : k < m
        · have hk0 : (0 : Int) ≤ (k : Int) := by omega
          have hk1 : (k : Int) < (m : Int) := by omega
          obtain ⟨bx, rfl, _⟩ := own_form (M.own i _ l Hx.out hl) (by omega)
          obtain ⟨M1, ⟨u0, cu⟩, fz, hgb⟩ := kq_set M Hx.out hl k p hkm
          have I1 : Hid (∃ ms l, Kq g (.slice (some ⟨bl, 0, none⟩) n cl) vw xs ws ms (wr.setCell ⟨bx, k, none⟩ (.int .u8 (p : Int))) ∧ Wr i ms ∧ ms[i]? = some l ∧ l.length = m ∧ (∀ j, j < k + 1 → l.getD j 0 = p) ∧ Below g w (wr.setCell ⟨bx, k, none⟩ (.int .u8 (p : Int)))) := by
            refine ⟨_, l.set k p, M1, wr_set HF hl k p, ?_, by rw [List.length_set]; exact hll, fun j hj => ?_, ?_⟩
            · exact List.getElem?_set_self (List.getElem?_eq_some_iff.1 hl).1
            · by_cases he : j = k
              · subst he
                simp [List.getD, hll, hkm]
              · rw [List.getD, List.getElem?_set_ne (by omega), ← List.getD]
                exact hlk j (by omega)
            · exact hb.setCell (by show g ≤ bx; omega) _
          clear I M HF hl hll hlk hb hcl M1 hgb
          go_wp2
          exact ⟨⟨k + 1, by rfl, by omega, I1⟩, by simp only [intOf]; omega⟩
        · have hk1 : ¬ ((k : Int) < (m : Int)) := by omega
          have hke : k = m := by omega
          have HW : Wr (i + 1) ms := by
            refine ⟨HF.1, fun j l' hj hl' q hq => ?_⟩
            by_cases hij : i = j
            · subst hij
              rw [hl] at hl'
              have : l' = l := (Option.some.inj hl').symm
              subst this
              rw [hlk q (by omega), Hp.out]
            · exact HF.2 j l' (by omega) hl' q hq
          have HW' : Hid _ := HW
          have M' : Hid _ := M
          have BB : Hid _ := hb
          clear I M HF hl hll hlk hb hcl HW hke
          go_wp2
          first | exact ⟨⟨i + 1, ms, by rfl, by omega, M', HW', BB⟩, by simp only [intOf]; omega⟩ | (have hpe := Hp.out; exact ⟨⟨p, ms, by rfl, by omega, M', by rw [hpe]; exact HW', BB⟩, by simp only [intOf]; omega⟩)
    · have hi1 : ¬ ((i : Int) < (n : Int)) := by omega
      have hie : i = n := by omega
      have FL : Flat ms := by
        intro j l hl
        refine ⟨HF.out.1 j l hl, HF.out.2 j l ?_ hl⟩
        have h1 := (List.getElem?_eq_some_iff.1 hl).1
        have h2 := M.out.len
        have h3 := HX.out
        omega
      have FL' : Hid (Flat ms) := FL
      clear hie HF FL
      rename_i K hKK
      have HT : Hid (∀ a w, Code.wp Tryd.prog tail26b (bodyPost Tryd.prog Tryd.f26 R) a w → K a w) := hKK
      clear hKK
      go_wp2
      refine HT.out _ _ ?_
      refine tailB g n ol cl vw hn xs ws ms HX.out FL'.out _ _ _ _ _ _ _ _ _ _ _ _ _ _ _ _ _ _ _ _ _ _ _ _ _ _ _ _ _ _ _ _ _ _ _ _ _ _ _ _ _ _ _ _ _ _ _ _ _ _ _ _ _ _ _ _ _ _ _ _ _ _ _ _ _ _ _ _ _ _ _ _ _ _ _ _ _ _ _ _ _ _ _ _ _ _ _ _ _ _ _ _ _ _ _ _ _ _ _ _ _ _ _ _ _ _ _ _ _ _ _ _ _ _ _ _ _ _ _ _ _ _ _ _ _ _ _ _ _ _ _ _ _ _ _ _ _ _ _ _ _ _ _ _ _ _ _ _ _ _ _ _ _ _ _ _ _ _ _ _ _ _ _ _ _ _ _ _ _ _ _ _ _ _ _ _ _ M R ?_
      exact fun w' h1 h2 => hR.out w' h1 (BL.out.trans h2)
end Go.Proofs.YtkppejaigodgiabDoor
