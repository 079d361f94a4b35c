/- The law's hoard, stands: the lists gone on with. -/
import Derived.Test.YtkppejaigodgiabDoorRfS1
namespace Go.Proofs.YtkppejaigodgiabDoor
open Go.RowKit
noncomputable def tail26b : Code := ((Tryd.f26.body.bind (frC 13)).getD .skip)
def Flat (ls : List (List Nat)) : Prop := ∀ (j : Nat) l, ls[j]? = some l → l.length ≤ 1048576 ∧ ∀ k, k < l.length → l.getD k 0 = j + 1
theorem Ms.cs {g : Nat} {vl vw : Value} {xs ws : List Value} {ls : List (List Nat)} {N : Nat} {vm : Value} {ys : List Value} {w : World} (h : Ms g vl vw xs ws ls N xs.length vm ys w) (hf : Flat ls) : Cs g vl vm xs.length xs ys ls w :=
  ⟨(cell_of_row w g 0 _ _ _ h.hd.row).trans rfl, ⟨_, h.hd.l⟩, ⟨_, h.m⟩, h.len.symm, h.byx, h.byy, hf⟩
theorem own_hf {w : World} {B : Nat} {x : Value} {l : List Nat} (h : w.ownsRow B 5 1 x l.length (bs l).toList) : (x = .slice none 0 0 ∧ l = []) ∨ ∃ g c, x = .slice (some ⟨g, 0, none⟩) l.length c ∧ l.length ≤ c ∧ c ≤ maxLen := by
  obtain ⟨h1, ⟨h2, h3⟩ | ⟨g, cap, cur, h2, _, _, h3, h4, _⟩⟩ := h
  · exact .inl ⟨h2, List.length_eq_zero_iff.1 h3⟩
  · exact .inr ⟨g, cap, h2, h3, h4⟩
attribute [local go_sem ↓] toApp toAp4
set_option maxRecDepth 100000 in
set_option maxHeartbeats 3200000 in
theorem tailB (g n : Nat) (ol : Option Addr) (cl : Nat) (vw : Value) (hn : n ≤ 100) (xs ws : List Value) (ls : List (List Nat)) (hxn : xs.length = n) (hf : Flat ls) (v1 v2 v3 v4 v5 v6 v7 v8 v9 v10 v11 v12 v13 v14 v15 v16 v17 v18 v19 v20 v21 v22 v23 v24 v25 v26 v27 v28 v29 v30 v31 v32 v33 v34 v35 v36 v37 v38 v39 v40 v41 v42 v43 v44 v45 v46 v47 v48 v49 v50 v51 v52 v53 v54 v55 v56 v57 v58 v59 v60 v61 v62 v63 v64 v65 v66 v67 v68 v69 v70 v71 v72 v73 v74 v75 v76 v77 v78 v79 v80 v81 v82 v83 v84 v85 v86 v87 v88 v89 v90 v91 v92 v93 v94 v95 v96 v97 v98 v99 v100 v101 v102 v103 v104 v105 v106 v107 v108 v109 v110 v111 v112 v113 v114 v115 v116 v117 v118 v119 v120 v121 v122 v123 v124 v125 v126 v127 v128 v129 v130 v131 v132 v133 v134 v135 v136 v137 v138 v139 v140 v141 v142 v143 v144 v145 v146 v147 v148 v149 v150 v151 v152 v153 v154 v155 v156 v157 v158 v159 v160 v161 v162 v163 v164 v165 v166 v167 v168 v169 v170 v171 v172 v173 v174 v175 v176 : Value) (w : World)
    (H : Hid (Kq g (.slice ol n cl) vw xs ws ls w)) (R : Ending → World → Prop) (hR : Hid (∀ w', Hd g (.slice ol n cl) vw xs ws w' → Below g w w' → R (.returned (.bool true)) w')) :
    Code.wp Tryd.prog tail26b (bodyPost Tryd.prog Tryd.f26 R) ⟨#[.pointer (some ⟨g, 0, none⟩), v1, v2, v3, v4, v5, v6, v7, v8, v9, v10, v11, v12, v13, v14, v15, v16, v17, v18, v19, v20, v21, v22, v23, v24, v25, v26, v27, v28, v29, v30, v31, v32, v33, v34, v35, v36, v37, v38, v39, v40, v41, v42, v43, v44, v45, v46, v47, v48, v49, v50, v51, v52, v53, v54, v55, v56, v57, v58, v59, v60, v61, v62, v63, v64, v65, v66, v67, v68, v69, v70, v71, v72, v73, v74, v75, v76, v77, v78, v79, v80, v81, v82, v83, v84, v85, v86, v87, v88, v89, v90, v91, v92, v93, v94, v95, v96, v97, v98, v99, v100, v101, v102, v103, v104, v105, v106, v107, v108, v109, v110, v111, v112, v113, v114, v115, v116, v117, v118, v119, v120, v121, v122, v123, v124, v125, v126, v127, v128, v129, v130, v131, v132, v133, v134, v135, v136, v137, v138, v139, v140, v141, v142, v143, v144, v145, v146, v147, v148, v149, v150, v151, v152, v153, v154, v155, v156, v157, v158, v159, v160, v161, v162, v163, v164, v165, v166, v167, v168, v169, v170, v171, v172, v173, v174, v175, v176], []⟩ w := by
  conv => arg 2; whnf
  have M0 : Hid (Ms g (.slice ol n cl) vw xs ws ls w.heap.size 0 (.slice none 0 0) [] w) := H.out.ms
  have HF : Hid (Flat ls) := hf
  have HX : Hid (xs.length = n) := hxn
  clear H hf hxn
  go_wp2_with fail
  go_loopw [6, 7] (fun vm i wr => ∃ (k : Nat) (ys : List Value), i = .int .i64 (k : Int) ∧ k ≤ n ∧ Hid (Ms g (.slice ol n cl) vw xs ws ls w.heap.size k vm ys wr) ∧ Hid (Below g w wr)) (fun _ i _ => n - (intOf i).toNat)
  case atStart => exact ⟨0, [], rfl, by omega, M0, Below.refl _ _⟩
  case round =>
    clear M0
    obtain ⟨W1, hW1⟩ : ∃ W1, W1 = wr := ⟨_, rfl⟩
    subst hW1
    obtain ⟨i, ys, rfl, hi, M, BL⟩ := hrel
    have c0 : W1.cell? ⟨g, 0, none⟩ = some (.slice ol n cl) := (cell_of_row W1 g 0 _ _ _ M.out.hd.row).trans rfl
    by_cases hlt : i < n
    · have hxi : i < xs.length := by have := HX.out; omega
      have hli : i < ls.length := by have := M.out.len; omega
      obtain ⟨x, hx⟩ : ∃ x, xs[i]? = some x := ⟨_, List.getElem?_eq_getElem hxi⟩
      obtain ⟨l, hl⟩ : ∃ l, ls[i]? = some l := ⟨_, List.getElem?_eq_getElem hli⟩
      have ho := M.out.own i x l (Nat.le_refl _) hx hl
      have hlen := (HF.out i l hl).1
      obtain ⟨bl, rfl, _, _, _, hcl⟩ := own_form M.out.hd.l (by omega)
      have ci := hcl i _ hx
      obtain ⟨ox, cx, rfl⟩ := own_slice ho
      obtain ⟨m, hm⟩ : ∃ m, m = l.length := ⟨_, rfl⟩
      rw [← hm] at ci hx
      have HO : Hid (W1.ownsRow (g + 1) 5 1 (.slice ox m cx) l.length (bs l).toList) := by rw [← hm] at ho; rw [hm] at ho ⊢; exact ho
      obtain ⟨r, hr⟩ : ∃ r, r = 101 + i := ⟨_, rfl⟩
      have ir : (101 : Int) + (i : Int) = (r : Int) := by omega
      have hr1 : (r : Int) < 256 := by omega
      have hi0 : (0 : Int) ≤ (i : Int) := by omega
      have hi1 : (i : Int) < (n : Int) := by omega
      have G0 : Hid (Gs (g + 1) (.slice ox m cx) (.slice ox m cx) l 0 r W1 W1) := Gs.zero r HO.out
      have HS : Hid (g + 1 ≤ W1.heap.size) := (Array.getElem?_eq_some_iff.1 M.out.hd.row).1
      have HFF := own_hf HO.out
      have HFF' : Hid _ := HFF
      have Hr : Hid (r = 101 + i) := hr
      have Hm : Hid (m = l.length) := hm
      have Hx : Hid (xs[i]? = some (.slice ox m cx)) := hx
      have Hl : Hid (ls[i]? = some l) := hl
      have Hlen : Hid (l.length ≤ 1048576) := hlen
      clear hr hm hx hl hlen ho HFF hcl HO hxi hli
      go_wp2_with fail
      go_loopw [8, 9] (fun u j wq => ∃ k : Nat, j = .int .i64 (k : Int) ∧ k ≤ 64 ∧ Hid (Gs (g + 1) (.slice ox m cx) u l k r W1 wq)) (fun _ j _ => 64 - (intOf j).toNat)
      case atStart => exact ⟨0, rfl, by omega, G0⟩
      case round =>
        clear G0
        obtain ⟨k, rfl, hk, G⟩ := hrel
        by_cases hk64 : k < 64
        · have hk0 : (0 : Int) ≤ (k : Int) := by omega
          have hk1 : (k : Int) < 64 := by omega
          obtain ⟨v1, w1, hr1', G1⟩ := G.out.step HS.out (by have := Hlen.out; omega) (by first | exact HFF'.out | (have := HFF'.out; simpa using this))
          have G1' : Hid _ := G1
          clear G G1
          go_wp2
          exact ⟨⟨k + 1, by rfl, by omega, G1'⟩, by simp only [intOf]; omega⟩
        · have hk1 : ¬ ((k : Int) < 64) := by omega
          have hke : k = 64 := by omega
          have G64 : Gs (g + 1) (.slice ox m cx) u8 l 64 (101 + i) W1 wr := by have := G.out; rw [hke, Hr.out] at this; exact this
          obtain ⟨ou, cu, rfl⟩ := own_slice G64.row
          obtain ⟨v2, w2, hr2, M2, B2⟩ := M.out.step Hx.out Hl.out G64 (by omega)
          have M2' : Hid _ := M2
          have B3 : Hid (Below g w w2) := by
            have hx := fun j => M.out.apl i (.slice ox m cx) j Hx.out
            have h1 : Below g W1 wr := ⟨G64.os, G64.tape, G64.out, G64.size, fun j hj => G64.oth j (by have := HS.out; omega) (fun he => by have := (hx j he).2.1; omega)⟩
            exact BL.out.trans (B2 h1)
          clear G G64 M2 B2 hke
          go_wp2
          exact ⟨⟨i + 1, _, by rfl, by omega, M2', B3⟩, by simp only [intOf]; omega⟩
    · have hi1 : ¬ ((i : Int) < (n : Int)) := by omega
      have hie : i = n := by omega
      have CS : Hid (∃ om cm, u6 = .slice om n cm ∧ Cs g (.slice ol n cl) (.slice om n cm) n xs ys ls W1) := by
        have h := M.out
        rw [hie] at h
        obtain ⟨om, cm, he⟩ := own_slice h.m
        have h2 := HX.out
        subst h2
        subst he
        exact ⟨om, cm, rfl, h.cs HF.out⟩
      have HH : Hid (Hd g (.slice ol n cl) vw xs ws W1) := M.out.hd
      clear hie M
      obtain ⟨om, cm, rfl, CS'⟩ := CS.out
      have CS2 : Hid _ := CS'
      clear CS CS'
      rename_i K hKK
      have HT : Hid (∀ a w, Code.wp Tryd.prog tail26c (bodyPost Tryd.prog Tryd.f26 R) a w → K a w) := hKK
      clear hKK
      go_wp2
      refine HT.out _ _ ?_
      refine tailC g ol om n cl cm hn xs ys ls _ _ _ _ _ _ _ _ _ _ _ _ _ _ _ _ _ _ _ _ _ _ _ _ _ _ _ _ _ _ _ _ _ _ _ _ _ _ _ _ _ _ _ _ _ _ _ _ _ _ _ _ _ _ _ _ _ _ _ _ _ _ _ _ _ _ _ _ _ _ _ _ _ _ _ _ _ _ _ _ _ _ _ _ _ _ _ _ _ _ _ _ _ _ _ _ _ _ _ _ _ _ _ _ _ _ _ _ _ _ _ _ _ _ _ _ _ _ _ _ _ _ _ _ _ _ _ _ _ _ _ _ _ _ _ _ _ _ _ _ _ _ _ _ _ _ _ _ _ _ _ _ _ _ _ _ _ _ _ _ _ _ _ _ _ _ _ _ _ _ _ _ _ _ _ _ CS2 R ?_
      exact hR.out _ HH.out BL.out
end Go.Proofs.YtkppejaigodgiabDoor
