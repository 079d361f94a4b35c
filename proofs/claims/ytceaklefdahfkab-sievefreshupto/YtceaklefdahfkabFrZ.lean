/- Several texts in one: FrL, FrM, FrN, FrO, FrP, FrQ. -/
import Derived.Test.YtceaklefdahfkabFrY
import Derived.BigRegion
import Derived.Deep.MidRow
/- SieveFresh: more is laid behind each. -/
namespace Go.Proofs.Ytceaklefdahfkab
open Go.RowKit
section
variable {B e sz N : Nat} {v mv : Nat → Value} {n : Nat → Nat} {X Y : Nat → List Value} {w w' : World}
theorem Mor.step2 {a : Nat} (h : Mor B e sz N v mv n X Y a w) (ha : a < N) {g' c' : Nat} {nw : List Value} (hO : Ow B e sz (.slice (some ⟨g', 0, none⟩) (n a + 64) c') (n a + 64) (X a ++ nw) w') (hO2 : Ow B e sz (v a) (n a) (X a) w') (hs : w.heap.size ≤ w'.heap.size) (hg : ∀ g cur, w.heap[g]? = some (.cells cur e (0, 0)) → bk (v a) ≠ some g → w'.heap[g]? = w.heap[g]?) (hf : bk (v a) = some g' ∨ w.heap.size ≤ g') (hb : bk (.slice (some ⟨g', 0, none⟩) (n a + 64) c') = some g') (j : Nat) (u : Value) (hY : Y a = nw.set j u) :
    Mor B e sz N v (updF mv a (.slice (some ⟨g', 0, none⟩) (n a + 64) c')) n X Y (a + 1) (w'.setCell ⟨g', n a * sz + j, none⟩ u) := by
  have hkp : ∀ {i : Nat} {vv : Value} {nn : Nat} {xs : List Value}, Ow B e sz vv nn xs w → (∀ g, bk vv = some g → bk (v a) ≠ some g) → Ow B e sz vv nn xs w' := fun ho hne => ho.keep hs fun g hgi hz => by
    obtain ⟨_, _, cur, hc⟩ := ho.blk g hgi
    exact hg g cur hc (hne g hgi)
  have hfm : Fam B e sz N v n X w' := ⟨fun i hi => by
    by_cases hia : i = a
    · subst hia; exact hO2
    · exact hkp (i := i) (h.fam.ow i hi) (fun g hgi e => h.fam.ne i a hi ha hia g hgi e), h.fam.ne⟩
  have hxl : (X a).length = n a * sz := hO2.1
  have hmo : ∀ i, i < a → Ow B e sz (mv i) (n i + 64) (X i ++ Y i) w' ∧ bk (mv i) ≠ some g' := fun i hi => by
    refine ⟨hkp (i := i) (h.ow i hi) (fun g hgi e => h.mx i a hi ha (by omega) g hgi e), fun e' => ?_⟩
    rcases hf with h1 | h1
    · exact h.mx i a hi ha (by omega) g' e' h1
    · obtain ⟨_, hz, _⟩ := (h.ow i hi).blk g' e'
      omega
  have hva : ∀ k, k < N → k ≠ a → bk (v k) ≠ some g' := fun k hk hka e' => by
    rcases hf with h1 | h1
    · exact h.fam.ne k a hk ha hka g' e' h1
    · obtain ⟨_, hz, _⟩ := (h.fam.ow k hk).blk g' e'
      omega
  refine ⟨⟨fun i hi => ?_, h.fam.ne⟩, fun i hi => ?_, fun i hi => ?_, fun i k hi hk hik g hgi => ?_, fun i k hi hk hik g hgi => ?_⟩
  · by_cases hia : i = a
    · subst hia
      by_cases hbi : bk (v i) = some g'
      · have := hO2.set hbi (n i * sz + j) u
        rw [List.set_eq_of_length_le (by omega)] at this
        exact this
      · exact hO2.setO hbi _ _
    · exact (hfm.ow i hi).setO (hva i hi hia) _ _
  · by_cases hia : i = a
    · subst hia
      rw [updF_same, hY]
      have := hO.set hb (n i * sz + j) u
      rw [List.set_append_right _ _ (by omega), hxl, Nat.add_sub_cancel_left] at this
      exact this
    · rw [updF_other _ _ _ _ hia]
      obtain ⟨q1, q2⟩ := hmo i (by omega)
      exact q1.setO q2 _ _
  · by_cases hia : i = a
    · subst hia; rw [updF_same]; exact ⟨_, hb⟩
    · rw [updF_other _ _ _ _ hia]; exact h.bs i (by omega)
  · by_cases hia : i = a
    · subst hia
      rw [updF_same, hb] at hgi
      cases hgi
      exact hva k hk (fun e => hik e.symm)
    · rw [updF_other _ _ _ _ hia] at hgi
      exact h.mx i k (by omega) hk hik g hgi
  · by_cases hia : i = a
    · subst hia
      rw [updF_same, hb] at hgi
      cases hgi
      rw [updF_other _ _ _ _ (fun e => hik e.symm)]
      exact (hmo k (by omega)).2
    · rw [updF_other _ _ _ _ hia] at hgi
      by_cases hka : k = a
      · subst hka
        rw [updF_same, hb]
        intro e'
        cases e'
        exact (hmo i (by omega)).2 hgi
      · rw [updF_other _ _ _ _ hka]
        exact h.mm i k (by omega) (by omega) hik g hgi
end
/-- The hits' lists, each with more behind it, as they are looked at. -/
def HitE (B bh bm : Nat) (X : World) : Prop := ∃ (hv mv : Nat → Value) (nh : Nat → Nat) (XH ZH : Nat → List Value), Arr bh 50 4 hv X ∧ Arr bm 50 4 mv X ∧ Mor B 39 2 4 hv mv nh XH ZH 4 X ∧ (∀ i, i < 4 → ∀ k, k < nh i → (XH i)[k * 2]? = some (.int .i64 (1000 + (i : Int))) ∧ (XH i)[k * 2 + 1]? = some (.int .i64 (-(k : Int)))) ∧ (∀ i, i < 4 → (ZH i)[126]? = some (.int .i64 (2000 + (i : Int)))) ∧ (∀ i, i < 4 → nh i ≤ 1099511627776)
/-- What is done to blocks of other kinds. -/
theorem HitE.keep {B bh bm : Nat} {X X' : World} (h : HitE B bh bm X) (hs : X.heap.size ≤ X'.heap.size) (hk : ∀ (g : Nat) (cur : Array Value) (t : TypeId), X.heap[g]? = some (Obj.cells cur t (0, 0)) → t = 39 ∨ t = 50 → X'.heap[g]? = X.heap[g]?) : HitE B bh bm X' := by
  obtain ⟨hv, mv, nh, XH, ZH, ⟨c1, h1, h1'⟩, ⟨c2, h2, h2'⟩, h3, h4⟩ := h
  exact ⟨hv, mv, nh, XH, ZH, ⟨c1, (hk bh _ _ h1 (.inr rfl)).trans h1, h1'⟩, ⟨c2, (hk bm _ _ h2 (.inr rfl)).trans h2, h2'⟩, h3.keep hs (fun g cur hc _ => hk g cur 39 hc (.inl rfl)), h4⟩
def apHZ (ty : Nat) (vs : Array Value) : Sem Value := Builtin.append_ #[31, 3] ty vs
theorem toApHZ (ty : Nat) (vs : Array Value) : Builtin.append_ #[31, 3] ty vs = apHZ ty vs := rfl
theorem zc5 : (Builtin.zeroCells (Value.int .u8 0).cells 64).toList = List.replicate 64 (.int .u8 0) := by kernel_rfl
theorem zc39 : (Builtin.zeroCells (Value.agg #[.int .i64 0, .int .i64 0]).cells 64).toList = List.replicate 128 (.int .i64 0) := by kernel_rfl
/-- 64 zero bytes behind a list. -/
theorem zer5 (w : World) (B ty : Nat) (v : Value) (n : Nat) (xs : List Value) (h : Ow B 5 1 v n xs w) (hn : n ≤ 1099511627776) (hB : B ≤ w.heap.size) :
    ∃ g' c' w', (apZ ty #[v, .int .i64 64]).run Try.prog w = .ok (.slice (some ⟨g', 0, none⟩) (n + 64) c') w' ∧ Ow B 5 1 (.slice (some ⟨g', 0, none⟩) (n + 64) c') (n + 64) (xs ++ List.replicate 64 (.int .u8 0)) w' ∧ Ow B 5 1 v n xs w' ∧ w.grownBy w' (bk v) ∧ (bk v = some g' ∨ w.heap.size ≤ g') ∧ bk (.slice (some ⟨g', 0, none⟩) (n + 64) c') = some g' := by
  obtain ⟨i0, hi0, hz0, hz1, hz2⟩ := info_parts info5
  have := ow_zeros (P := Try.prog) w B 23 3 ty 5 i0 _ .i64 .i64 1 1 Try.underlying23 Try.underlying3 hi0 hz0 hz1 hz2 rfl (by decide) v n xs h 64 (by rw [zc5]; intro u hu; rw [List.eq_of_mem_replicate hu]; rfl) (by decide) (by unfold maxLen; omega) (by omega) hB
  rw [zc5] at this
  exact this
theorem zer39 (w : World) (B ty : Nat) (v : Value) (n : Nat) (xs : List Value) (h : Ow B 39 2 v n xs w) (hn : n ≤ 1099511627776) (hB : B ≤ w.heap.size) :
    ∃ g' c' w', (apHZ ty #[v, .int .i64 64]).run Try.prog w = .ok (.slice (some ⟨g', 0, none⟩) (n + 64) c') w' ∧ Ow B 39 2 (.slice (some ⟨g', 0, none⟩) (n + 64) c') (n + 64) (xs ++ List.replicate 128 (.int .i64 0)) w' ∧ Ow B 39 2 v n xs w' ∧ w.grownBy w' (bk v) ∧ (bk v = some g' ∨ w.heap.size ≤ g') ∧ bk (.slice (some ⟨g', 0, none⟩) (n + 64) c') = some g' := by
  obtain ⟨i0, hi0, hz0, hz1, hz2⟩ := info_parts info40
  have := ow_zeros (P := Try.prog) w B 31 3 ty 39 i0 _ .i64 .i64 2 16 Try.underlying31 Try.underlying3 hi0 hz0 hz1 hz2 rfl (by decide) v n xs h 64 (by rw [zc39]; intro u hu; rw [List.eq_of_mem_replicate hu]; rfl) (by decide) (by unfold maxLen; omega) (by omega) hB
  rw [zc39] at this
  exact this
end Go.Proofs.Ytceaklefdahfkab

/- SieveFresh: FrM. -/
namespace Go.Proofs.Ytceaklefdahfkab
open Go.RowKit
def zt (i : Nat) : List Value := (List.replicate 64 (Value.int .u8 0)).set 63 (.int .u8 (200 + (i : Int)))
theorem zt_get (i : Nat) : (zt i)[63]? = some (.int .u8 (200 + (i : Int))) := by simp [zt]
/-- How it stands while more is laid behind the bytes. -/
structure Lng (B bo bl bh bm : Nat) (ov : Nat → Value) (no : Nat → Nat) (Y : Nat → List Value) (X : World) (a : Nat) (w : World) : Prop where
  ex : ∃ lv fl, Mor B 5 1 6 ov lv no Y zt a w ∧ Arr bl 51 6 fl w ∧ ∀ k, k < a → fl k = lv k
  ao : Arr bo 51 6 ov w
  hH : HitE B bh bm w
  bl : Below B X w
theorem Lng.step {B bo bl bh bm : Nat} {ov : Nat → Value} {no : Nat → Nat} {Y : Nat → List Value} {X wr : World} {i : Nat} (hL : Lng B bo bl bh bm ov no Y X i wr) (hlt : i < 6) (hB : B ≤ X.heap.size) (hn : ∀ i, i < 6 → no i ≤ 1099511627776) (hbl : B ≤ bl) (hne : bo ≠ bl) :
    ∃ o c g' c' w1 w2 oldv u0, wr.cell? ⟨bo, i, none⟩ = some (.slice o (no i) c) ∧ (apZ 23 #[.slice o (no i) c, .int .i64 64]).run Try.prog wr = .ok (.slice (some ⟨g', 0, none⟩) (no i + 64) c') w1 ∧ w1.cell? ⟨bl, i, none⟩ = some oldv ∧ w1.frozen? ⟨bl, i, none⟩ = false ∧ w1.setCell ⟨bl, i, none⟩ (.slice (some ⟨g', 0, none⟩) (no i + 64) c') = w2 ∧ w2.cell? ⟨bl, i, none⟩ = some (.slice (some ⟨g', 0, none⟩) (no i + 64) c') ∧ w2.cell? ⟨bo, i, none⟩ = some (.slice o (no i) c) ∧ w2.cell? ⟨g', no i + 63, none⟩ = some u0 ∧ w2.frozen? ⟨g', no i + 63, none⟩ = false ∧ ∀ d, Lng B bo bl bh bm ov no Y X (i + 1) ((w2.drewN d).setCell ⟨g', no i + 63, none⟩ (.int .u8 (200 + (i : Int)))) := by
  obtain ⟨lv, fl', hM, hA, hfl⟩ := hL.ex
  have o1 := hM.fam.ow i hlt
  obtain ⟨o, c, e1, _, _, _⟩ := o1.form
  have hBw : B ≤ wr.heap.size := Nat.le_trans hB hL.bl.size
  obtain ⟨g', c', w1, r1, oA, oB, hg, hf, hb⟩ := zer5 wr B 23 (ov i) (no i) (Y i) o1 (hn i hlt) hBw
  have k1 := hL.ao.cell i hlt
  have hgt : ∀ (gg : Nat) (cur : Array Value) (t : TypeId), wr.heap[gg]? = some (Obj.cells cur t (0, 0)) → t ≠ 5 → w1.heap[gg]? = wr.heap[gg]? := fun gg cur t hc ht => hg.block gg (Array.getElem?_eq_some_iff.1 hc).1 (fun q => by
    obtain ⟨_, _, cur', hc'⟩ := o1.blk gg q.symm
    rw [hc] at hc'
    injection hc' with hc'
    injection hc' with _ hc'
    exact ht hc')
  have hA1 : Arr bl 51 6 fl' w1 := by
    obtain ⟨cu, h1, h2⟩ := hA
    exact ⟨cu, (hgt bl cu 51 h1 (by decide)).trans h1, h2⟩
  have hO1 : Arr bo 51 6 ov w1 := by
    obtain ⟨cu, h1, h2⟩ := hL.ao
    exact ⟨cu, (hgt bo cu 51 h1 (by decide)).trans h1, h2⟩
  have k2 := hA1.cell i hlt
  have f2 := hA1.frozen i
  obtain ⟨w2, hw2⟩ : ∃ w2, w1.setCell ⟨bl, i, none⟩ (.slice (some ⟨g', 0, none⟩) (no i + 64) c') = w2 := ⟨_, rfl⟩
  have hA2 : Arr bl 51 6 (updF fl' i (.slice (some ⟨g', 0, none⟩) (no i + 64) c')) w2 := by rw [← hw2]; exact hA1.set i _
  have hO2 : Arr bo 51 6 ov w2 := by rw [← hw2]; exact hO1.keep (heap_setCell_other w1 _ _ _ hne)
  have hbl5 : ∀ cur, w1.heap[bl]? ≠ some (.cells cur 5 (0, 0)) := hA1.ne (by decide)
  have oA2 : Ow B 5 1 (.slice (some ⟨g', 0, none⟩) (no i + 64) c') (no i + 64) (Y i ++ List.replicate 64 (.int .u8 0)) w2 := by
    rw [← hw2]
    exact oA.setO (fun q => by obtain ⟨_, _, cur, hc⟩ := oA.blk bl q; exact hbl5 cur hc) _ _
  have oB2 : Ow B 5 1 (ov i) (no i) (Y i) w2 := by
    rw [← hw2]
    exact oB.setO (fun q => by obtain ⟨_, _, cur, hc⟩ := oB.blk bl q; exact hbl5 cur hc) _ _
  have k3 := hA2.cell i hlt
  rw [updF_same] at k3
  have k4 := hO2.cell i hlt
  have hlen : (Y i ++ List.replicate 64 (Value.int .u8 0)).length = (no i + 64) * 1 := oA.1
  obtain ⟨u0, hu0⟩ : ∃ u0, (Y i ++ List.replicate 64 (Value.int .u8 0))[no i + 63]? = some u0 := ⟨_, List.getElem?_eq_getElem (by omega)⟩
  have k5 := oA2.cell hb _ _ hu0
  have f5 := oA2.frozen hb (no i + 63)
  have HN : (∀ d, Lng B bo bl bh bm ov no Y X (i + 1) ((w2.drewN d).setCell ⟨g', no i + 63, none⟩ (.int .u8 (200 + (i : Int))))) := fun d => by
    have hg'5 : ∃ cur, w2.heap[g']? = some (.cells cur 5 (0, 0)) := (oA2.blk g' hb).2.2
    obtain ⟨cg, hcg⟩ := hg'5
    have hgB : B ≤ g' := (oA2.blk g' hb).1
    have hs2 : wr.heap.size ≤ w2.heap.size := by rw [← hw2]; exact Nat.le_trans hg.size (by simp)
    refine ⟨⟨updF lv i (.slice (some ⟨g', 0, none⟩) (no i + 64) c'), updF fl' i (.slice (some ⟨g', 0, none⟩) (no i + 64) c'), ?_, hA2.setO (w := w2.drewN d) hcg (by decide) _ _, fun k hk => ?_⟩, hO2.setO (w := w2.drewN d) hcg (by decide) _ _, hL.hH.keep (by simpa using hs2) (fun gg cur t hc ht => ?_), ?_⟩
    · have := hM.step2 (w' := w2.drewN d) hlt oA2 oB2 hs2 (fun gg cur hc hq => ?_) hf hb 63 (.int .u8 (200 + (i : Int))) rfl
      · rw [Nat.mul_one] at this
        exact this
      · show w2.heap[gg]? = _
        rw [← hw2, heap_setCell_other w1 _ _ _ (fun q => ?_)]
        · exact hg.block gg (Array.getElem?_eq_some_iff.1 hc).1 (fun q => hq q.symm)
        · have q : gg = bl := q
          subst q
          exact hA.ne (by decide) cur hc
    · by_cases hki : k = i
      · subst hki
        rw [updF_same, updF_same]
      · rw [updF_other _ _ _ _ hki, updF_other _ _ _ _ hki]
        exact hfl k (by omega)
    · have h51 : gg ≠ bl := fun q => by
        subst q
        rcases ht with rfl | rfl
        · exact hA.ne (by decide) cur hc
        · exact hA.ne (by decide) cur hc
      have h5 : gg ≠ g' := fun q => by
        subst q
        have : w2.heap[gg]? = some (.cells cur t (0, 0)) := by
          rw [← hw2, heap_setCell_other w1 _ _ _ h51, hgt gg cur t hc (by rcases ht with rfl | rfl <;> decide)]
          exact hc
        rw [hcg] at this
        injection this with this
        injection this with _ this
        rcases ht with rfl | rfl <;> cases this
      rw [heap_setCell_other (w2.drewN d) _ _ _ h5]
      show w2.heap[gg]? = _
      rw [← hw2, heap_setCell_other w1 _ _ _ h51]
      exact hgt gg cur t hc (by rcases ht with rfl | rfl <;> decide)
    · have b1 : Below B wr w1 := ⟨hg.os, hg.tape, hg.output, hg.size, fun k hk => hg.block k (by omega) (fun q => by have := (o1.blk k q.symm).1; omega)⟩
      have b2 : Below B wr w2 := by rw [← hw2]; exact b1.setCell (p := ⟨bl, i, none⟩) hbl _
      exact hL.bl.trans ((Below.drewN' b2 d).setCell (p := ⟨g', no i + 63, none⟩) hgB _)
  rw [e1] at k1 k4 r1
  exact ⟨o, c, g', c', w1, w2, fl' i, u0, k1, r1, k2, f2, hw2, k3, k4, k5, f5, HN⟩
theorem wn63 (n : Nat) (h : n ≤ 1099511627776) : wrap64 ((n : Int) + 63) = ((n + 63 : Nat) : Int) ∧ (0 : Int) ≤ ((n + 63 : Nat) : Int) ∧ ((n + 63 : Nat) : Int) < ((n + 64 : Nat) : Int) := by unfold wrap64; omega
theorem mea {N i : Nat} (h : i < N) : N - (intOf (Value.int .i64 (((i + 1 : Nat) : Int)))).toNat < N - (intOf (Value.int .i64 (i : Int))).toNat := by simp [intOf]; omega
attribute [local go_sem ↓] toApZ toApHZ
set_option maxRecDepth 100000 in
set_option maxHeartbeats 6400000 in
theorem fr45 {ws : List ByteArray} {m : Nat} {ns : List Nat} {g gt : Nat} {D : List Nat} {u dv wv : Value} (W X : World) (bh bm bo bl B : Nat) (ov fl : Nat → Value) (no : Nat → Nat) (Y : Nat → List Value) (C : Ctf ws m D) (hS : ∀ Z, Below B X Z → Sta ws m ns g gt D u dv wv W Z) (hB : B ≤ X.heap.size) (hbo : B ≤ bl) (ao : Arr bo 51 6 ov X) (al : Arr bl 51 6 fl X) (hne : bo ≠ bl) (FO : Fam B 5 1 6 ov no Y X) (hY : ∀ i, i < 6 → ∀ k, k < no i → (Y i)[k]? = some (.int .u8 (100 + (i : Int)))) (hn : ∀ i, i < 6 → no i ≤ 1099511627776) (hH : HitE B bh bm X) {v0 v1 v2 v3 v4 v5 v6 v7 v8 v12 v14 v15 v16 v17 v19 v21 v22 v23 v25 v26 v28 v29 v30 v31 v32 v33 v34 v35 v36 v37 v38 v39 v40 v41 v42 v43 v44 v45 v46 v47 v48 v49 v50 v51 v52 v53 v54 v55 v56 v57 v58 v59 v60 v61 v62 v63 v64 v65 v66 v67 v68 v69 v70 v71 v72 v73 v74 v75 v76 v77 v78 v79 v80 v81 v82 v83 v84 v85 v86 v87 v88 v89 v90 v91 v92 v93 v94 v95 v96 v97 v98 v99 v100 v101 v102 v103 v104 v105 v106 v107 v108 v109 v110 v111 v112 v113 v114 v115 v116 v117 v118 v119 v120 v121 v122 v123 v124 v125 v126 v127 v128 v129 v130 v131 v132 v133 v134 v135 v136 v137 v138 v139 v140 v141 v142 v143 v144 v145 v146 v147 v148 v149 v150 v151 v152 v153 v154 v155 v156 v157 v158 v159 v160 v161 v162 v163 v164 v165 v166 v167 v168 v169 v170 v171 v172 v173 v174 v175 v176 v177 v178 v179 v180 v181 v182 v183 v184 v185 v186 v187 v188 v189 v190 v191 v192 v193 v194 v195 v196 v197 v198 v199 v200 v201 v202 v203 v204 v205 v206 v207 v208 v209 v210 v211 v212 v213 v214 v215 v216 v217 v218 v219 v220 v221 v222 v223 v224 v225 v226 v227 v228 v229 v230 v231 v232 v233 v234 v235 v236 v237 v238 v239 v240 v241 v242 v243 v244 v245 v246 v247 v248 v249 v250 v251 v252 v253 v254 v255 v256 v257 v258 v259 v260 v261 v262 v263 v264 v265 v266 v267 v268 v269 v270 v271 v272 v273 v274 v275 v276 v277 v278 v279 v280 v281 v282 v283 v284 v285 v286 v287 v288 v289 v290 v291 v292 v293 v294 v295 v296 v297 v298 v299 v300 v301 v302 v303 v304 v305 v306 v307 v308 v309 v310 v311 v312 v313 v314 v315 v316 v317 v318 v319 v320 v321 v322 v323 v324 v325 v326 v327 v328 v329 v330 v331 v332 v333 v334 v335 v336 v337 v338 v339 v340 v341 v342 v343 v344 v345 v346 v347 v348 v349 v350 v351 v352 v353 v354 v355 v356 v357 v358 v359 v360 v361 v362 v363 v364 v365 v366 v367 v368 v369 v370 v371 v372 v373 v374 v375 v376 v377 v378 v379 v380 v381 v382 v383 v384 v385 v386 v387 v388 v389 v390 v391 v392 v393 v394 : Value} :
    Code.wp Try.prog (tlG Try.f4 45) (bodyPost Try.prog Try.f4 (fun e w' => e = .returned (.bool true) ∧ Below W.heap.size W w')) ⟨#[v0, v1, v2, v3, v4, v5, v6, v7, v8, u, dv, .pointer (some ⟨g, 0, none⟩), v12, wv, v14, v15, v16, v17, .pointer (some ⟨bh, 0, none⟩), v19, .pointer (some ⟨bo, 0, none⟩), v21, v22, v23, .pointer (some ⟨bm, 0, none⟩), v25, v26, .pointer (some ⟨bl, 0, none⟩), v28, v29, v30, v31, v32, v33, v34, v35, v36, v37, v38, v39, v40, v41, v42, v43, v44, v45, v46, v47, v48, v49, v50, v51, v52, v53, v54, v55, v56, v57, v58, v59, v60, v61, v62, v63, v64, v65, v66, v67, v68, v69, v70, v71, v72, v73, v74, v75, v76, v77, v78, v79, v80, v81, v82, v83, v84, v85, v86, v87, v88, v89, v90, v91, v92, v93, v94, v95, v96, v97, v98, v99, v100, v101, v102, v103, v104, v105, v106, v107, v108, v109, v110, v111, v112, v113, v114, v115, v116, v117, v118, v119, v120, v121, v122, v123, v124, v125, v126, v127, v128, v129, v130, v131, v132, v133, v134, v135, v136, v137, v138, v139, v140, v141, v142, v143, v144, v145, v146, v147, v148, v149, v150, v151, v152, v153, v154, v155, v156, v157, v158, v159, v160, v161, v162, v163, v164, v165, v166, v167, v168, v169, v170, v171, v172, v173, v174, v175, v176, v177, v178, v179, v180, v181, v182, v183, v184, v185, v186, v187, v188, v189, v190, v191, v192, v193, v194, v195, v196, v197, v198, v199, v200, v201, v202, v203, v204, v205, v206, v207, v208, v209, v210, v211, v212, v213, v214, v215, v216, v217, v218, v219, v220, v221, v222, v223, v224, v225, v226, v227, v228, v229, v230, v231, v232, v233, v234, v235, v236, v237, v238, v239, v240, v241, v242, v243, v244, v245, v246, v247, v248, v249, v250, v251, v252, v253, v254, v255, v256, v257, v258, v259, v260, v261, v262, v263, v264, v265, v266, v267, v268, v269, v270, v271, v272, v273, v274, v275, v276, v277, v278, v279, v280, v281, v282, v283, v284, v285, v286, v287, v288, v289, v290, v291, v292, v293, v294, v295, v296, v297, v298, v299, v300, v301, v302, v303, v304, v305, v306, v307, v308, v309, v310, v311, v312, v313, v314, v315, v316, v317, v318, v319, v320, v321, v322, v323, v324, v325, v326, v327, v328, v329, v330, v331, v332, v333, v334, v335, v336, v337, v338, v339, v340, v341, v342, v343, v344, v345, v346, v347, v348, v349, v350, v351, v352, v353, v354, v355, v356, v357, v358, v359, v360, v361, v362, v363, v364, v365, v366, v367, v368, v369, v370, v371, v372, v373, v374, v375, v376, v377, v378, v379, v380, v381, v382, v383, v384, v385, v386, v387, v388, v389, v390, v391, v392, v393, v394], []⟩ X := by
  have HS : Hid ((∀ Z, Below B X Z → Sta ws m ns g gt D u dv wv W Z) ∧ Ctf ws m D ∧ B ≤ X.heap.size ∧ (∀ i, i < 6 → ∀ k, k < no i → (Y i)[k]? = some (.int .u8 (100 + (i : Int)))) ∧ (∀ i, i < 6 → no i ≤ 1099511627776) ∧ B ≤ bl ∧ bo ≠ bl) := ⟨hS, C, hB, hY, hn, hbo, hne⟩
  have HL : Hid (Lng B bo bl bh bm ov no Y X 0 X) := ⟨⟨fl, fl, FO.mor0 _ _, al, fun k hk => by omega⟩, ao, hH, Below.refl _ _⟩
  clear hS C hB hY hn hbo hne ao al FO hH
  conv => arg 2; whnf
  refine wp_seq_k ?_
  intro K hK
  have HK2 : Hid (∀ q w, Code.wp Try.prog (tlG Try.f4 50) (bodyPost Try.prog Try.f4 (fun e w' => e = .returned (.bool true) ∧ Below W.heap.size W w')) q w → K q w) := hK
  clear hK
  go_wp2_with fail
  go_loopw [31] (fun iv wr => ∃ i : Nat, iv = .int .i64 (i : Int) ∧ i ≤ 6 ∧ Hid (Lng B bo bl bh bm ov no Y X i wr)) (fun iv _ => 6 - (intOf iv).toNat)
  case atStart => exact ⟨0, rfl, by omega, HL.out⟩
  case round =>
    clear HL
    obtain ⟨i, rfl, hi, HL⟩ := hrel
    by_cases hlt : i < 6
    · have i0 : (0 : Int) ≤ (i : Int) := by omega
      have i6 := c6 i hlt
      have q2 := w200 i hlt
      have q4 := b200 i hlt
      obtain ⟨o, c, g', c', w1, w2, oldv, u0, k1, r1, k2, f2, hw2, k3, k4, k5, f5, hnx⟩ := HL.out.step hlt HS.out.2.2.1 HS.out.2.2.2.2.1 HS.out.2.2.2.2.2.1 HS.out.2.2.2.2.2.2
      have hno := HS.out.2.2.2.2.1 i hlt
      obtain ⟨e5, e6, e7⟩ := wn63 (no i) hno
      have HN : Hid _ := hnx
      have HLT : Hid (i < 6) := hlt
      generalize no i = n at *
      clear hnx HL hi hlt hno
      go_wp2_with fail
      clear hw2
      go_region
      go_wp2
      go_roundw
      case rel => exact ⟨i + 1, by simp, HLT.out, HN.out 1⟩
      case measure =>
        have := HLT.out
        clear HS HN k1 r1 k2 f2 k3 k4 k5 f5 HK2
        simp [intOf]; omega
    · have hin : i = 6 := by omega
      subst hin
      go_wp2_with fail
      obtain ⟨lv, fl', hM, hA, hfl⟩ := HL.out.ex
      have hA' : Arr bl 51 6 lv wr := by
        obtain ⟨cu, h1, h2⟩ := hA
        exact ⟨cu, h1, fun k hk => by rw [← hfl k hk]; exact h2 k hk⟩
      obtain ⟨hv, mv, nh, XH, ZH, x1, x2, x3, x4, x5, x6⟩ := HL.out.hH
      exact HK2.out _ _ (fr50 W wr bh bm bo bl B hv mv nh XH ZH HS.out.2.1 (HS.out.1 wr HL.out.bl) x1 x2 x3 x4 x5 x6 ⟨ov, lv, no, Y, zt, HL.out.ao, hA', hM, HS.out.2.2.2.1, fun i _ => zt_get i, HS.out.2.2.2.2.1⟩)
end Go.Proofs.Ytceaklefdahfkab

/- SieveFresh: FrN. -/
namespace Go.Proofs.Ytceaklefdahfkab
open Go.RowKit
/-- The bytes' lists, as they have been written full. -/
def OutD (B bo bl : Nat) (X : World) : Prop := ∃ (ov fl : Nat → Value) (no : Nat → Nat) (Y : Nat → List Value), Arr bo 51 6 ov X ∧ Arr bl 51 6 fl X ∧ Fam B 5 1 6 ov no Y X ∧ (∀ i, i < 6 → ∀ k, k < no i → (Y i)[k]? = some (.int .u8 (100 + (i : Int)))) ∧ (∀ i, i < 6 → no i ≤ 1099511627776)
theorem OutD.keep {B bo bl : Nat} {X X' : World} (h : OutD B bo bl X) (hs : X.heap.size ≤ X'.heap.size) (hk : ∀ (g : Nat) (cur : Array Value) (t : TypeId), X.heap[g]? = some (Obj.cells cur t (0, 0)) → t = 5 ∨ t = 51 → X'.heap[g]? = X.heap[g]?) : OutD B bo bl X' := by
  obtain ⟨ov, fl, no, Y, ⟨c1, h1, h1'⟩, ⟨c2, h2, h2'⟩, h3, h4⟩ := h
  exact ⟨ov, fl, no, Y, ⟨c1, (hk bo _ _ h1 (.inr rfl)).trans h1, h1'⟩, ⟨c2, (hk bl _ _ h2 (.inr rfl)).trans h2, h2'⟩, h3.keep hs (fun i g hi hg hz => by
    obtain ⟨_, _, cur, hc⟩ := (h3.ow i hi).blk g hg
    exact hk g cur 5 hc (.inl rfl)), h4⟩
def zh (i : Nat) : List Value := (List.replicate 128 (Value.int .i64 0)).set 126 (.int .i64 (2000 + (i : Int)))
theorem zh_get (i : Nat) : (zh i)[126]? = some (.int .i64 (2000 + (i : Int))) := by simp [zh]
/-- How it stands while more is laid behind the hits. -/
structure Lnh (B bo bl bh bm : Nat) (hv : Nat → Value) (nh : Nat → Nat) (XH : Nat → List Value) (X : World) (a : Nat) (w : World) : Prop where
  ex : ∃ mv fm, Mor B 39 2 4 hv mv nh XH zh a w ∧ Arr bm 50 4 fm w ∧ ∀ k, k < a → fm k = mv k
  ah : Arr bh 50 4 hv w
  hO : OutD B bo bl w
  bl : Below B X w
theorem Lnh.step {B bo bl bh bm : Nat} {hv : Nat → Value} {nh : Nat → Nat} {XH : Nat → List Value} {X wr : World} {i : Nat} (hL : Lnh B bo bl bh bm hv nh XH X i wr) (hlt : i < 4) (hB : B ≤ X.heap.size) (hn : ∀ i, i < 4 → nh i ≤ 1099511627776) (hbm : B ≤ bm) (hne : bh ≠ bm) :
    ∃ o c g' c' w1 w2 oldv u0, wr.cell? ⟨bh, i, none⟩ = some (.slice o (nh i) c) ∧ (apHZ 31 #[.slice o (nh i) c, .int .i64 64]).run Try.prog wr = .ok (.slice (some ⟨g', 0, none⟩) (nh i + 64) c') w1 ∧ w1.cell? ⟨bm, i, none⟩ = some oldv ∧ w1.frozen? ⟨bm, i, none⟩ = false ∧ w1.setCell ⟨bm, i, none⟩ (.slice (some ⟨g', 0, none⟩) (nh i + 64) c') = w2 ∧ w2.cell? ⟨bm, i, none⟩ = some (.slice (some ⟨g', 0, none⟩) (nh i + 64) c') ∧ w2.cell? ⟨bh, i, none⟩ = some (.slice o (nh i) c) ∧ w2.cell? ⟨g', (nh i + 63) * 2, none⟩ = some u0 ∧ w2.frozen? ⟨g', (nh i + 63) * 2, none⟩ = false ∧ ∀ d, Lnh B bo bl bh bm hv nh XH X (i + 1) ((w2.drewN d).setCell ⟨g', (nh i + 63) * 2, none⟩ (.int .i64 (2000 + (i : Int)))) := by
  obtain ⟨mv, fm', hM, hA, hfl⟩ := hL.ex
  have o1 := hM.fam.ow i hlt
  obtain ⟨o, c, e1, _, _, _⟩ := o1.form
  have hBw : B ≤ wr.heap.size := Nat.le_trans hB hL.bl.size
  obtain ⟨g', c', w1, r1, oA, oB, hg, hf, hb⟩ := zer39 wr B 31 (hv i) (nh i) (XH i) o1 (hn i hlt) hBw
  have k1 := hL.ah.cell i hlt
  have hgt : ∀ (gg : Nat) (cur : Array Value) (t : TypeId), wr.heap[gg]? = some (Obj.cells cur t (0, 0)) → t ≠ 39 → w1.heap[gg]? = wr.heap[gg]? := fun gg cur t hc ht => hg.block gg (Array.getElem?_eq_some_iff.1 hc).1 (fun q => by
    obtain ⟨_, _, cur', hc'⟩ := o1.blk gg q.symm
    rw [hc] at hc'
    injection hc' with hc'
    injection hc' with _ hc'
    exact ht hc')
  have hA1 : Arr bm 50 4 fm' w1 := by
    obtain ⟨cu, h1, h2⟩ := hA
    exact ⟨cu, (hgt bm cu 50 h1 (by decide)).trans h1, h2⟩
  have hO1 : Arr bh 50 4 hv w1 := by
    obtain ⟨cu, h1, h2⟩ := hL.ah
    exact ⟨cu, (hgt bh cu 50 h1 (by decide)).trans h1, h2⟩
  have k2 := hA1.cell i hlt
  have f2 := hA1.frozen i
  obtain ⟨w2, hw2⟩ : ∃ w2, w1.setCell ⟨bm, i, none⟩ (.slice (some ⟨g', 0, none⟩) (nh i + 64) c') = w2 := ⟨_, rfl⟩
  have hA2 : Arr bm 50 4 (updF fm' i (.slice (some ⟨g', 0, none⟩) (nh i + 64) c')) w2 := by rw [← hw2]; exact hA1.set i _
  have hO2 : Arr bh 50 4 hv w2 := by rw [← hw2]; exact hO1.keep (heap_setCell_other w1 _ _ _ hne)
  have hbl5 : ∀ cur, w1.heap[bm]? ≠ some (.cells cur 39 (0, 0)) := hA1.ne (by decide)
  have oA2 : Ow B 39 2 (.slice (some ⟨g', 0, none⟩) (nh i + 64) c') (nh i + 64) (XH i ++ List.replicate 128 (.int .i64 0)) w2 := by
    rw [← hw2]
    exact oA.setO (fun q => by obtain ⟨_, _, cur, hc⟩ := oA.blk bm q; exact hbl5 cur hc) _ _
  have oB2 : Ow B 39 2 (hv i) (nh i) (XH i) w2 := by
    rw [← hw2]
    exact oB.setO (fun q => by obtain ⟨_, _, cur, hc⟩ := oB.blk bm q; exact hbl5 cur hc) _ _
  have k3 := hA2.cell i hlt
  rw [updF_same] at k3
  have k4 := hO2.cell i hlt
  have hlen : (XH i ++ List.replicate 128 (Value.int .i64 0)).length = (nh i + 64) * 2 := oA.1
  obtain ⟨u0, hu0⟩ : ∃ u0, (XH i ++ List.replicate 128 (Value.int .i64 0))[(nh i + 63) * 2]? = some u0 := ⟨_, List.getElem?_eq_getElem (by omega)⟩
  have k5 := oA2.cell hb _ _ hu0
  have f5 := oA2.frozen hb ((nh i + 63) * 2)
  have HN : (∀ d, Lnh B bo bl bh bm hv nh XH X (i + 1) ((w2.drewN d).setCell ⟨g', (nh i + 63) * 2, none⟩ (.int .i64 (2000 + (i : Int))))) := fun d => by
    have hg'5 : ∃ cur, w2.heap[g']? = some (.cells cur 39 (0, 0)) := (oA2.blk g' hb).2.2
    obtain ⟨cg, hcg⟩ := hg'5
    have hgB : B ≤ g' := (oA2.blk g' hb).1
    have hs2 : wr.heap.size ≤ w2.heap.size := by rw [← hw2]; exact Nat.le_trans hg.size (by simp)
    refine ⟨⟨updF mv i (.slice (some ⟨g', 0, none⟩) (nh i + 64) c'), updF fm' i (.slice (some ⟨g', 0, none⟩) (nh i + 64) c'), ?_, hA2.setO (w := w2.drewN d) hcg (by decide) _ _, fun k hk => ?_⟩, hO2.setO (w := w2.drewN d) hcg (by decide) _ _, hL.hO.keep (by simpa using hs2) (fun gg cur t hc ht => ?_), ?_⟩
    · have := hM.step2 (w' := w2.drewN d) hlt oA2 oB2 hs2 (fun gg cur hc hq => ?_) hf hb 126 (.int .i64 (2000 + (i : Int))) rfl
      · rw [show nh i * 2 + 126 = (nh i + 63) * 2 by omega] at this
        exact this
      · show w2.heap[gg]? = _
        rw [← hw2, heap_setCell_other w1 _ _ _ (fun q => ?_)]
        · exact hg.block gg (Array.getElem?_eq_some_iff.1 hc).1 (fun q => hq q.symm)
        · have q : gg = bm := q
          subst q
          exact hA.ne (by decide) cur hc
    · by_cases hki : k = i
      · subst hki
        rw [updF_same, updF_same]
      · rw [updF_other _ _ _ _ hki, updF_other _ _ _ _ hki]
        exact hfl k (by omega)
    · have h51 : gg ≠ bm := fun q => by
        subst q
        rcases ht with rfl | rfl
        · exact hA.ne (by decide) cur hc
        · exact hA.ne (by decide) cur hc
      have h5 : gg ≠ g' := fun q => by
        subst q
        have : w2.heap[gg]? = some (.cells cur t (0, 0)) := by
          rw [← hw2, heap_setCell_other w1 _ _ _ h51, hgt gg cur t hc (by rcases ht with rfl | rfl <;> decide)]
          exact hc
        rw [hcg] at this
        injection this with this
        injection this with _ this
        rcases ht with rfl | rfl <;> cases this
      rw [heap_setCell_other (w2.drewN d) _ _ _ h5]
      show w2.heap[gg]? = _
      rw [← hw2, heap_setCell_other w1 _ _ _ h51]
      exact hgt gg cur t hc (by rcases ht with rfl | rfl <;> decide)
    · have b1 : Below B wr w1 := ⟨hg.os, hg.tape, hg.output, hg.size, fun k hk => hg.block k (by omega) (fun q => by have := (o1.blk k q.symm).1; omega)⟩
      have b2 : Below B wr w2 := by rw [← hw2]; exact b1.setCell (p := ⟨bm, i, none⟩) hbm _
      exact hL.bl.trans ((Below.drewN' b2 d).setCell (p := ⟨g', (nh i + 63) * 2, none⟩) hgB _)
  rw [e1] at k1 k4 r1
  exact ⟨o, c, g', c', w1, w2, fm' i, u0, k1, r1, k2, f2, hw2, k3, k4, k5, f5, HN⟩
attribute [local go_sem ↓] toApZ toApHZ
set_option maxRecDepth 100000 in
set_option maxHeartbeats 6400000 in
theorem fr40 {ws : List ByteArray} {m : Nat} {ns : List Nat} {g gt : Nat} {D : List Nat} {u dv wv : Value} (W X : World) (bh bm bo bl B : Nat) (hv fm : Nat → Value) (nh : Nat → Nat) (XH : Nat → List Value) (C : Ctf ws m D) (hS : ∀ Z, Below B X Z → Sta ws m ns g gt D u dv wv W Z) (hB : B ≤ X.heap.size) (hbl : B ≤ bl) (hne : bo ≠ bl) (hbm : B ≤ bm) (hnm : bh ≠ bm) (ah : Arr bh 50 4 hv X) (am : Arr bm 50 4 fm X) (FH : Fam B 39 2 4 hv nh XH X) (hX : ∀ i, i < 4 → ∀ k, k < nh i → (XH i)[k * 2]? = some (.int .i64 (1000 + (i : Int))) ∧ (XH i)[k * 2 + 1]? = some (.int .i64 (-(k : Int)))) (hn : ∀ i, i < 4 → nh i ≤ 1099511627776) (hO : OutD B bo bl X) {v0 v1 v2 v3 v4 v5 v6 v7 v8 v12 v14 v15 v16 v17 v19 v21 v22 v23 v25 v26 v28 v29 v30 v31 v32 v33 v34 v35 v36 v37 v38 v39 v40 v41 v42 v43 v44 v45 v46 v47 v48 v49 v50 v51 v52 v53 v54 v55 v56 v57 v58 v59 v60 v61 v62 v63 v64 v65 v66 v67 v68 v69 v70 v71 v72 v73 v74 v75 v76 v77 v78 v79 v80 v81 v82 v83 v84 v85 v86 v87 v88 v89 v90 v91 v92 v93 v94 v95 v96 v97 v98 v99 v100 v101 v102 v103 v104 v105 v106 v107 v108 v109 v110 v111 v112 v113 v114 v115 v116 v117 v118 v119 v120 v121 v122 v123 v124 v125 v126 v127 v128 v129 v130 v131 v132 v133 v134 v135 v136 v137 v138 v139 v140 v141 v142 v143 v144 v145 v146 v147 v148 v149 v150 v151 v152 v153 v154 v155 v156 v157 v158 v159 v160 v161 v162 v163 v164 v165 v166 v167 v168 v169 v170 v171 v172 v173 v174 v175 v176 v177 v178 v179 v180 v181 v182 v183 v184 v185 v186 v187 v188 v189 v190 v191 v192 v193 v194 v195 v196 v197 v198 v199 v200 v201 v202 v203 v204 v205 v206 v207 v208 v209 v210 v211 v212 v213 v214 v215 v216 v217 v218 v219 v220 v221 v222 v223 v224 v225 v226 v227 v228 v229 v230 v231 v232 v233 v234 v235 v236 v237 v238 v239 v240 v241 v242 v243 v244 v245 v246 v247 v248 v249 v250 v251 v252 v253 v254 v255 v256 v257 v258 v259 v260 v261 v262 v263 v264 v265 v266 v267 v268 v269 v270 v271 v272 v273 v274 v275 v276 v277 v278 v279 v280 v281 v282 v283 v284 v285 v286 v287 v288 v289 v290 v291 v292 v293 v294 v295 v296 v297 v298 v299 v300 v301 v302 v303 v304 v305 v306 v307 v308 v309 v310 v311 v312 v313 v314 v315 v316 v317 v318 v319 v320 v321 v322 v323 v324 v325 v326 v327 v328 v329 v330 v331 v332 v333 v334 v335 v336 v337 v338 v339 v340 v341 v342 v343 v344 v345 v346 v347 v348 v349 v350 v351 v352 v353 v354 v355 v356 v357 v358 v359 v360 v361 v362 v363 v364 v365 v366 v367 v368 v369 v370 v371 v372 v373 v374 v375 v376 v377 v378 v379 v380 v381 v382 v383 v384 v385 v386 v387 v388 v389 v390 v391 v392 v393 v394 : Value} :
    Code.wp Try.prog (tlG Try.f4 40) (bodyPost Try.prog Try.f4 (fun e w' => e = .returned (.bool true) ∧ Below W.heap.size W w')) ⟨#[v0, v1, v2, v3, v4, v5, v6, v7, v8, u, dv, .pointer (some ⟨g, 0, none⟩), v12, wv, v14, v15, v16, v17, .pointer (some ⟨bh, 0, none⟩), v19, .pointer (some ⟨bo, 0, none⟩), v21, v22, v23, .pointer (some ⟨bm, 0, none⟩), v25, v26, .pointer (some ⟨bl, 0, none⟩), v28, v29, v30, v31, v32, v33, v34, v35, v36, v37, v38, v39, v40, v41, v42, v43, v44, v45, v46, v47, v48, v49, v50, v51, v52, v53, v54, v55, v56, v57, v58, v59, v60, v61, v62, v63, v64, v65, v66, v67, v68, v69, v70, v71, v72, v73, v74, v75, v76, v77, v78, v79, v80, v81, v82, v83, v84, v85, v86, v87, v88, v89, v90, v91, v92, v93, v94, v95, v96, v97, v98, v99, v100, v101, v102, v103, v104, v105, v106, v107, v108, v109, v110, v111, v112, v113, v114, v115, v116, v117, v118, v119, v120, v121, v122, v123, v124, v125, v126, v127, v128, v129, v130, v131, v132, v133, v134, v135, v136, v137, v138, v139, v140, v141, v142, v143, v144, v145, v146, v147, v148, v149, v150, v151, v152, v153, v154, v155, v156, v157, v158, v159, v160, v161, v162, v163, v164, v165, v166, v167, v168, v169, v170, v171, v172, v173, v174, v175, v176, v177, v178, v179, v180, v181, v182, v183, v184, v185, v186, v187, v188, v189, v190, v191, v192, v193, v194, v195, v196, v197, v198, v199, v200, v201, v202, v203, v204, v205, v206, v207, v208, v209, v210, v211, v212, v213, v214, v215, v216, v217, v218, v219, v220, v221, v222, v223, v224, v225, v226, v227, v228, v229, v230, v231, v232, v233, v234, v235, v236, v237, v238, v239, v240, v241, v242, v243, v244, v245, v246, v247, v248, v249, v250, v251, v252, v253, v254, v255, v256, v257, v258, v259, v260, v261, v262, v263, v264, v265, v266, v267, v268, v269, v270, v271, v272, v273, v274, v275, v276, v277, v278, v279, v280, v281, v282, v283, v284, v285, v286, v287, v288, v289, v290, v291, v292, v293, v294, v295, v296, v297, v298, v299, v300, v301, v302, v303, v304, v305, v306, v307, v308, v309, v310, v311, v312, v313, v314, v315, v316, v317, v318, v319, v320, v321, v322, v323, v324, v325, v326, v327, v328, v329, v330, v331, v332, v333, v334, v335, v336, v337, v338, v339, v340, v341, v342, v343, v344, v345, v346, v347, v348, v349, v350, v351, v352, v353, v354, v355, v356, v357, v358, v359, v360, v361, v362, v363, v364, v365, v366, v367, v368, v369, v370, v371, v372, v373, v374, v375, v376, v377, v378, v379, v380, v381, v382, v383, v384, v385, v386, v387, v388, v389, v390, v391, v392, v393, v394], []⟩ X := by
  have HS : Hid ((∀ Z, Below B X Z → Sta ws m ns g gt D u dv wv W Z) ∧ Ctf ws m D ∧ B ≤ X.heap.size ∧ (∀ i, i < 4 → ∀ k, k < nh i → (XH i)[k * 2]? = some (.int .i64 (1000 + (i : Int))) ∧ (XH i)[k * 2 + 1]? = some (.int .i64 (-(k : Int)))) ∧ (∀ i, i < 4 → nh i ≤ 1099511627776) ∧ B ≤ bm ∧ bh ≠ bm ∧ B ≤ bl ∧ bo ≠ bl) := ⟨hS, C, hB, hX, hn, hbm, hnm, hbl, hne⟩
  have HL : Hid (Lnh B bo bl bh bm hv nh XH X 0 X) := ⟨⟨fm, fm, FH.mor0 _ _, am, fun k hk => by omega⟩, ah, hO, Below.refl _ _⟩
  clear hS C hB hX hn hbm hnm hbl hne ah am FH hO
  conv => arg 2; whnf
  refine wp_seq_k ?_
  intro K hK
  have HK2 : Hid (∀ q w, Code.wp Try.prog (tlG Try.f4 45) (bodyPost Try.prog Try.f4 (fun e w' => e = .returned (.bool true) ∧ Below W.heap.size W w')) q w → K q w) := hK
  clear hK
  go_wp2_with fail
  go_loopw [30] (fun iv wr => ∃ i : Nat, iv = .int .i64 (i : Int) ∧ i ≤ 4 ∧ Hid (Lnh B bo bl bh bm hv nh XH X i wr)) (fun iv _ => 4 - (intOf iv).toNat)
  case atStart => exact ⟨0, rfl, by omega, HL.out⟩
  case round =>
    clear HL
    obtain ⟨i, rfl, hi, HL⟩ := hrel
    by_cases hlt : i < 4
    · have i0 : (0 : Int) ≤ (i : Int) := by omega
      have i6 := c4 i hlt
      have q2 := w2000 i hlt
      obtain ⟨o, c, g', c', w1, w2, oldv, u0, k1, r1, k2, f2, hw2, k3, k4, k5, f5, hnx⟩ := HL.out.step hlt HS.out.2.2.1 HS.out.2.2.2.2.1 HS.out.2.2.2.2.2.1 HS.out.2.2.2.2.2.2.1
      have hno := HS.out.2.2.2.2.1 i hlt
      obtain ⟨e5, e6, e7⟩ := wn63 (nh i) hno
      have HN : Hid _ := hnx
      have HLT : Hid (i < 4) := hlt
      generalize nh i = n at *
      clear hnx HL hi hlt hno
      go_wp2_with fail
      clear hw2
      go_region
      go_wp2
      go_roundw
      case rel => exact ⟨i + 1, by simp, HLT.out, HN.out 1⟩
      case measure =>
        have := HLT.out
        clear HS HN k1 r1 k2 f2 k3 k4 k5 f5 HK2
        simp [intOf]; omega
    · have hin : i = 4 := by omega
      subst hin
      go_wp2_with fail
      obtain ⟨mv, fm', hM, hA, hfl⟩ := HL.out.ex
      have hA' : Arr bm 50 4 mv wr := by
        obtain ⟨cu, h1, h2⟩ := hA
        exact ⟨cu, h1, fun k hk => by rw [← hfl k hk]; exact h2 k hk⟩
      obtain ⟨ov, fl, no, Y, x1, x2, x3, x4, x5⟩ := HL.out.hO
      exact HK2.out _ _ (fr45 W wr bh bm bo bl B ov fl no Y HS.out.2.1 (fun Z hZ => HS.out.1 Z (HL.out.bl.trans hZ)) (Nat.le_trans HS.out.2.2.1 HL.out.bl.size) HS.out.2.2.2.2.2.2.2.1 x1 x2 HS.out.2.2.2.2.2.2.2.2 x3 x4 x5 ⟨hv, mv, nh, XH, zh, HL.out.ah, hA', hM, HS.out.2.2.2.1, fun i _ => zh_get i, HS.out.2.2.2.2.1⟩)
end Go.Proofs.Ytceaklefdahfkab

/- SieveFresh: FrO. -/
namespace Go.Proofs.Ytceaklefdahfkab
open Go.RowKit
/-- The hits' lists, as they have been written full. -/
def HitD (B bh bm : Nat) (X : World) : Prop := ∃ (hv fm : Nat → Value) (nh : Nat → Nat) (XH : Nat → List Value), Arr bh 50 4 hv X ∧ Arr bm 50 4 fm X ∧ Fam B 39 2 4 hv nh XH X ∧ (∀ i, i < 4 → ∀ k, k < nh i → (XH i)[k * 2]? = some (.int .i64 (1000 + (i : Int))) ∧ (XH i)[k * 2 + 1]? = some (.int .i64 (-(k : Int)))) ∧ (∀ i, i < 4 → nh i ≤ 1099511627776)
theorem HitD.keep {B bh bm : Nat} {X X' : World} (h : HitD B bh bm X) (hs : X.heap.size ≤ X'.heap.size) (hk : ∀ (g : Nat) (cur : Array Value) (t : TypeId), X.heap[g]? = some (Obj.cells cur t (0, 0)) → t = 39 ∨ t = 50 → X'.heap[g]? = X.heap[g]?) : HitD B bh bm X' := by
  obtain ⟨ov, fl, no, Y, ⟨c1, h1, h1'⟩, ⟨c2, h2, h2'⟩, h3, h4⟩ := h
  exact ⟨ov, fl, no, Y, ⟨c1, (hk bh _ _ h1 (.inr rfl)).trans h1, h1'⟩, ⟨c2, (hk bm _ _ h2 (.inr rfl)).trans h2, h2'⟩, h3.keep hs (fun i g hi hg hz => by
    obtain ⟨_, _, cur, hc⟩ := (h3.ow i hi).blk g hg
    exact hk g cur 39 hc (.inl rfl)), h4⟩
/-- How it stands while the bytes are written full. -/
structure Wro (B bo bl bh bm : Nat) (ov : Nat → Value) (no : Nat → Nat) (X : World) (i k : Nat) (w : World) : Prop where
  ex : ∃ Y, Fam B 5 1 6 ov no Y w ∧ (∀ j, j < i → ∀ q, q < no j → (Y j)[q]? = some (.int .u8 (100 + (j : Int)))) ∧ (∀ q, q < k → (Y i)[q]? = some (.int .u8 (100 + (i : Int))))
  ao : Arr bo 51 6 ov w
  al : ∃ fl, Arr bl 51 6 fl w
  hH : HitD B bh bm w
  bl : Below B X w
theorem Wro.next {B bo bl bh bm : Nat} {ov : Nat → Value} {no : Nat → Nat} {X w : World} {i : Nat} (h : Wro B bo bl bh bm ov no X i (no i) w) : Wro B bo bl bh bm ov no X (i + 1) 0 w := by
  obtain ⟨Y, h1, h2, h3⟩ := h.ex
  refine ⟨⟨Y, h1, fun j hj q hq => ?_, fun q hq => by omega⟩, h.ao, h.al, h.hH, h.bl⟩
  by_cases hji : j = i
  · subst hji; exact h3 q hq
  · exact h2 j (by omega) q hq
theorem Wro.step {B bo bl bh bm : Nat} {ov : Nat → Value} {no : Nat → Nat} {X w : World} {i k : Nat} (h : Wro B bo bl bh bm ov no X i k w) (hi : i < 6) (hk : k < no i) :
    ∃ c gg old, w.cell? ⟨bo, i, none⟩ = some (.slice (some ⟨gg, 0, none⟩) (no i) c) ∧ w.cell? ⟨gg, k, none⟩ = some old ∧ w.frozen? ⟨gg, k, none⟩ = false ∧ Wro B bo bl bh bm ov no X i (k + 1) (w.setCell ⟨gg, k, none⟩ (.int .u8 (100 + (i : Int)))) := by
  obtain ⟨Y, h1, h2, h3⟩ := h.ex
  have o1 := h1.ow i hi
  obtain ⟨gg, c, e1, gB, gz, _⟩ := o1.pos (by omega)
  have hb : bk (ov i) = some gg := by rw [e1]; rfl
  have c1 := h.ao.cell i hi
  rw [e1] at c1
  have hl : (Y i).length = no i * 1 := o1.1
  obtain ⟨old, hold⟩ : ∃ old, (Y i)[k]? = some old := ⟨_, List.getElem?_eq_getElem (by omega)⟩
  obtain ⟨_, _, cg, hcg⟩ := o1.blk gg hb
  refine ⟨c + 1, gg, old, c1, o1.cell hb k old hold, o1.frozen hb k, ⟨⟨updF Y i ((Y i).set k (.int .u8 (100 + (i : Int)))), h1.set hi hb k _, fun j hj q hq => ?_, fun q hq => ?_⟩, h.ao.setO hcg (by decide) _ _, ?_, h.hH.keep (by simp) (fun g cur t hc ht => heap_setCell_other w _ _ _ (fun e => ?_)), h.bl.setCell (p := ⟨gg, k, none⟩) gB _⟩⟩
  · rw [updF_other _ _ _ _ (by omega)]
    exact h2 j hj q hq
  · rw [updF_same]
    by_cases hqk : q = k
    · subst hqk
      rw [List.getElem?_set_self (by omega)]
    · rw [List.getElem?_set_ne (by omega)]
      exact h3 q (by omega)
  · obtain ⟨fl, hfl⟩ := h.al
    exact ⟨fl, hfl.setO hcg (by decide) _ _⟩
  · have e : g = gg := e
    subst e
    rw [hcg] at hc
    injection hc with hc
    injection hc with _ hc
    rcases ht with rfl | rfl <;> cases hc
theorem Wro.len {B bo bl bh bm : Nat} {ov : Nat → Value} {no : Nat → Nat} {X w : World} {i k : Nat} (h : Wro B bo bl bh bm ov no X i k w) (hi : i < 6) : ∃ o c, w.cell? ⟨bo, i, none⟩ = some (.slice o (no i) c) := by
  obtain ⟨Y, h1, h2, h3⟩ := h.ex
  obtain ⟨o, c, e1, _⟩ := (h1.ow i hi).form
  have c1 := h.ao.cell i hi
  rw [e1] at c1
  exact ⟨o, c, c1⟩
theorem nil6 : ∀ i, i < 6 → (#[Value.slice none 0 0, .slice none 0 0, .slice none 0 0, .slice none 0 0, .slice none 0 0, .slice none 0 0])[i]? = some (Value.slice none 0 0)
  | 0, _ => rfl
  | 1, _ => rfl
  | 2, _ => rfl
  | 3, _ => rfl
  | 4, _ => rfl
  | 5, _ => rfl
  | n + 6, h => by omega
theorem nil4 : ∀ i, i < 4 → (#[Value.slice none 0 0, .slice none 0 0, .slice none 0 0, .slice none 0 0])[i]? = some (Value.slice none 0 0)
  | 0, _ => rfl
  | 1, _ => rfl
  | 2, _ => rfl
  | 3, _ => rfl
  | n + 4, h => by omega
theorem lt_int {k n : Nat} (h : k < n) : (0 : Int) ≤ (k : Int) ∧ (k : Int) < (n : Int) := by omega
set_option maxRecDepth 100000 in
set_option maxHeartbeats 6400000 in
theorem fr33 {ws : List ByteArray} {m : Nat} {ns : List Nat} {g gt : Nat} {D : List Nat} {u dv wv : Value} (W X : World) (bh bm bo bl B : Nat) (ov : Nat → Value) (no : Nat → Nat) (C : Ctf ws m D) (hS : ∀ Z, Below B X Z → Sta ws m ns g gt D u dv wv W Z) (hB : B ≤ X.heap.size) (hbl : B ≤ bl) (hne : bo ≠ bl) (hbm : B ≤ bm) (hnm : bh ≠ bm) (hO : Wro B bo bl bh bm ov no X 0 0 X) (hn : ∀ i, i < 6 → no i ≤ 1099511627776) {v0 v1 v2 v3 v4 v5 v6 v7 v8 v12 v14 v15 v16 v17 v19 v21 v22 v23 v25 v26 v28 v29 v30 v31 v32 v33 v34 v35 v36 v37 v38 v39 v40 v41 v42 v43 v44 v45 v46 v47 v48 v49 v50 v51 v52 v53 v54 v55 v56 v57 v58 v59 v60 v61 v62 v63 v64 v65 v66 v67 v68 v69 v70 v71 v72 v73 v74 v75 v76 v77 v78 v79 v80 v81 v82 v83 v84 v85 v86 v87 v88 v89 v90 v91 v92 v93 v94 v95 v96 v97 v98 v99 v100 v101 v102 v103 v104 v105 v106 v107 v108 v109 v110 v111 v112 v113 v114 v115 v116 v117 v118 v119 v120 v121 v122 v123 v124 v125 v126 v127 v128 v129 v130 v131 v132 v133 v134 v135 v136 v137 v138 v139 v140 v141 v142 v143 v144 v145 v146 v147 v148 v149 v150 v151 v152 v153 v154 v155 v156 v157 v158 v159 v160 v161 v162 v163 v164 v165 v166 v167 v168 v169 v170 v171 v172 v173 v174 v175 v176 v177 v178 v179 v180 v181 v182 v183 v184 v185 v186 v187 v188 v189 v190 v191 v192 v193 v194 v195 v196 v197 v198 v199 v200 v201 v202 v203 v204 v205 v206 v207 v208 v209 v210 v211 v212 v213 v214 v215 v216 v217 v218 v219 v220 v221 v222 v223 v224 v225 v226 v227 v228 v229 v230 v231 v232 v233 v234 v235 v236 v237 v238 v239 v240 v241 v242 v243 v244 v245 v246 v247 v248 v249 v250 v251 v252 v253 v254 v255 v256 v257 v258 v259 v260 v261 v262 v263 v264 v265 v266 v267 v268 v269 v270 v271 v272 v273 v274 v275 v276 v277 v278 v279 v280 v281 v282 v283 v284 v285 v286 v287 v288 v289 v290 v291 v292 v293 v294 v295 v296 v297 v298 v299 v300 v301 v302 v303 v304 v305 v306 v307 v308 v309 v310 v311 v312 v313 v314 v315 v316 v317 v318 v319 v320 v321 v322 v323 v324 v325 v326 v327 v328 v329 v330 v331 v332 v333 v334 v335 v336 v337 v338 v339 v340 v341 v342 v343 v344 v345 v346 v347 v348 v349 v350 v351 v352 v353 v354 v355 v356 v357 v358 v359 v360 v361 v362 v363 v364 v365 v366 v367 v368 v369 v370 v371 v372 v373 v374 v375 v376 v377 v378 v379 v380 v381 v382 v383 v384 v385 v386 v387 v388 v389 v390 v391 v392 v393 v394 : Value} :
    Code.wp Try.prog (tlG Try.f4 33) (bodyPost Try.prog Try.f4 (fun e w' => e = .returned (.bool true) ∧ Below W.heap.size W w')) ⟨#[v0, v1, v2, v3, v4, v5, v6, v7, v8, u, dv, .pointer (some ⟨g, 0, none⟩), v12, wv, v14, v15, v16, v17, .pointer (some ⟨bh, 0, none⟩), v19, .pointer (some ⟨bo, 0, none⟩), v21, v22, v23, .pointer (some ⟨bm, 0, none⟩), v25, v26, .pointer (some ⟨bl, 0, none⟩), v28, v29, v30, v31, v32, v33, v34, v35, v36, v37, v38, v39, v40, v41, v42, v43, v44, v45, v46, v47, v48, v49, v50, v51, v52, v53, v54, v55, v56, v57, v58, v59, v60, v61, v62, v63, v64, v65, v66, v67, v68, v69, v70, v71, v72, v73, v74, v75, v76, v77, v78, v79, v80, v81, v82, v83, v84, v85, v86, v87, v88, v89, v90, v91, v92, v93, v94, v95, v96, v97, v98, v99, v100, v101, v102, v103, v104, v105, v106, v107, v108, v109, v110, v111, v112, v113, v114, v115, v116, v117, v118, v119, v120, v121, v122, v123, v124, v125, v126, v127, v128, v129, v130, v131, v132, v133, v134, v135, v136, v137, v138, v139, v140, v141, v142, v143, v144, v145, v146, v147, v148, v149, v150, v151, v152, v153, v154, v155, v156, v157, v158, v159, v160, v161, v162, v163, v164, v165, v166, v167, v168, v169, v170, v171, v172, v173, v174, v175, v176, v177, v178, v179, v180, v181, v182, v183, v184, v185, v186, v187, v188, v189, v190, v191, v192, v193, v194, v195, v196, v197, v198, v199, v200, v201, v202, v203, v204, v205, v206, v207, v208, v209, v210, v211, v212, v213, v214, v215, v216, v217, v218, v219, v220, v221, v222, v223, v224, v225, v226, v227, v228, v229, v230, v231, v232, v233, v234, v235, v236, v237, v238, v239, v240, v241, v242, v243, v244, v245, v246, v247, v248, v249, v250, v251, v252, v253, v254, v255, v256, v257, v258, v259, v260, v261, v262, v263, v264, v265, v266, v267, v268, v269, v270, v271, v272, v273, v274, v275, v276, v277, v278, v279, v280, v281, v282, v283, v284, v285, v286, v287, v288, v289, v290, v291, v292, v293, v294, v295, v296, v297, v298, v299, v300, v301, v302, v303, v304, v305, v306, v307, v308, v309, v310, v311, v312, v313, v314, v315, v316, v317, v318, v319, v320, v321, v322, v323, v324, v325, v326, v327, v328, v329, v330, v331, v332, v333, v334, v335, v336, v337, v338, v339, v340, v341, v342, v343, v344, v345, v346, v347, v348, v349, v350, v351, v352, v353, v354, v355, v356, v357, v358, v359, v360, v361, v362, v363, v364, v365, v366, v367, v368, v369, v370, v371, v372, v373, v374, v375, v376, v377, v378, v379, v380, v381, v382, v383, v384, v385, v386, v387, v388, v389, v390, v391, v392, v393, v394], []⟩ X := by
  have HS : Hid ((∀ Z, Below B X Z → Sta ws m ns g gt D u dv wv W Z) ∧ Ctf ws m D ∧ B ≤ X.heap.size ∧ (∀ i, i < 6 → no i ≤ 1099511627776) ∧ B ≤ bm ∧ bh ≠ bm ∧ B ≤ bl ∧ bo ≠ bl) := ⟨hS, C, hB, hn, hbm, hnm, hbl, hne⟩
  have HL : Hid (Wro B bo bl bh bm ov no X 0 0 X) := hO
  clear hS C hB hn hbm hnm hbl hne hO
  conv => arg 2; whnf
  refine wp_seq_k ?_
  intro K hK
  have HK2 : Hid (∀ q w, Code.wp Try.prog (tlG Try.f4 40) (bodyPost Try.prog Try.f4 (fun e w' => e = .returned (.bool true) ∧ Below W.heap.size W w')) q w → K q w) := hK
  clear hK
  go_wp2_with fail
  go_loopw [28] (fun iv wr => ∃ i : Nat, iv = .int .i64 (i : Int) ∧ i ≤ 6 ∧ Hid (Wro B bo bl bh bm ov no X i 0 wr)) (fun iv _ => 6 - (intOf iv).toNat)
  case atStart => exact ⟨0, rfl, by omega, HL.out⟩
  case round =>
    clear HL
    obtain ⟨i, rfl, hi, HL⟩ := hrel
    by_cases hlt : i < 6
    · have i0 : (0 : Int) ≤ (i : Int) := by omega
      have i6 := c6 i hlt
      have q2 := w100 i hlt
      have q4 := b100 i hlt
      obtain ⟨n, en⟩ : ∃ n, no i = n := ⟨_, rfl⟩
      have hno : n ≤ 1099511627776 := by rw [← en]; exact HS.out.2.2.2.1 i hlt
      have HEN : Hid (no i = n ∧ i < 6) := ⟨en, hlt⟩
      clear en hlt hi
      go_wp2_with fail
      go_loopw [29] (fun kv wr2 => ∃ k : Nat, kv = .int .i64 (k : Int) ∧ k ≤ n ∧ Hid (Wro B bo bl bh bm ov no X i k wr2)) (fun kv _ => n - (intOf kv).toNat)
      case atStart => exact ⟨0, rfl, by omega, HL.out⟩
      case round =>
        clear HL
        obtain ⟨k, rfl, hk, HL⟩ := hrel
        by_cases hlt : k < n
        · obtain ⟨c, gg, old, k1, k2, k3, hnx⟩ := HL.out.step HEN.out.2 (by rw [HEN.out.1]; exact hlt)
          rw [HEN.out.1] at k1
          obtain ⟨e0, e1⟩ := lt_int hlt
          have HN : Hid _ := hnx
          have HKN : Hid (k < n) := hlt
          clear hnx HL hk hlt
          go_wp2
          go_roundw
          case rel => exact ⟨k + 1, by simp, HKN.out, HN.out⟩
          case measure =>
            have := HKN.out
            clear HS HN k1 k2 k3 HK2
            simp [intOf]; omega
        · have hkn : k = n := by omega
          subst hkn
          obtain ⟨o, c, k1⟩ := HL.out.len HEN.out.2
          rw [HEN.out.1] at k1
          have HN : Hid (Wro B bo bl bh bm ov no X (i + 1) 0 wr) := Wro.next (by rw [HEN.out.1]; exact HL.out)
          clear HL hk hlt
          go_wp2
          go_roundw
          case rel => exact ⟨i + 1, by simp, HEN.out.2, HN.out⟩
          case measure =>
            have := HEN.out.2
            clear HS HN k1 HK2
            simp [intOf]; omega
    · have hin : i = 6 := by omega
      subst hin
      go_wp2_with fail
      obtain ⟨Y, x1, x2, _⟩ := HL.out.ex
      obtain ⟨fl, x3⟩ := HL.out.al
      obtain ⟨hv, fm, nh, XH, y1, y2, y3, y4, y5⟩ := HL.out.hH
      exact HK2.out _ _ (fr40 W wr bh bm bo bl B hv fm nh XH HS.out.2.1 (fun Z hZ => HS.out.1 Z (HL.out.bl.trans hZ)) (Nat.le_trans HS.out.2.2.1 HL.out.bl.size) HS.out.2.2.2.2.2.2.1 HS.out.2.2.2.2.2.2.2 HS.out.2.2.2.2.1 HS.out.2.2.2.2.2.1 y1 y2 y3 y4 y5 ⟨ov, fl, no, Y, HL.out.ao, x3, x1, fun i hi k hk => x2 i hi k hk, HS.out.2.2.2.1⟩)
set_option maxRecDepth 100000 in
set_option maxHeartbeats 6400000 in
theorem fr32 {ws : List ByteArray} {m : Nat} {ns : List Nat} {g gt : Nat} {D : List Nat} {u dv wv : Value} (W X : World) (bh bm bo B : Nat) (ov : Nat → Value) (no : Nat → Nat) (Y : Nat → List Value) (C : Ctf ws m D) (hS : ∀ Z, Below B X Z → Sta ws m ns g gt D u dv wv W Z) (hB : B ≤ X.heap.size) (hbm : B ≤ bm) (hnm : bh ≠ bm) (ao : Arr bo 51 6 ov X) (FO : Fam B 5 1 6 ov no Y X) (hn : ∀ i, i < 6 → no i ≤ 1099511627776) (hH : HitD B bh bm X) {v0 v1 v2 v3 v4 v5 v6 v7 v8 v12 v14 v15 v16 v17 v19 v21 v22 v23 v25 v26 v27 v28 v29 v30 v31 v32 v33 v34 v35 v36 v37 v38 v39 v40 v41 v42 v43 v44 v45 v46 v47 v48 v49 v50 v51 v52 v53 v54 v55 v56 v57 v58 v59 v60 v61 v62 v63 v64 v65 v66 v67 v68 v69 v70 v71 v72 v73 v74 v75 v76 v77 v78 v79 v80 v81 v82 v83 v84 v85 v86 v87 v88 v89 v90 v91 v92 v93 v94 v95 v96 v97 v98 v99 v100 v101 v102 v103 v104 v105 v106 v107 v108 v109 v110 v111 v112 v113 v114 v115 v116 v117 v118 v119 v120 v121 v122 v123 v124 v125 v126 v127 v128 v129 v130 v131 v132 v133 v134 v135 v136 v137 v138 v139 v140 v141 v142 v143 v144 v145 v146 v147 v148 v149 v150 v151 v152 v153 v154 v155 v156 v157 v158 v159 v160 v161 v162 v163 v164 v165 v166 v167 v168 v169 v170 v171 v172 v173 v174 v175 v176 v177 v178 v179 v180 v181 v182 v183 v184 v185 v186 v187 v188 v189 v190 v191 v192 v193 v194 v195 v196 v197 v198 v199 v200 v201 v202 v203 v204 v205 v206 v207 v208 v209 v210 v211 v212 v213 v214 v215 v216 v217 v218 v219 v220 v221 v222 v223 v224 v225 v226 v227 v228 v229 v230 v231 v232 v233 v234 v235 v236 v237 v238 v239 v240 v241 v242 v243 v244 v245 v246 v247 v248 v249 v250 v251 v252 v253 v254 v255 v256 v257 v258 v259 v260 v261 v262 v263 v264 v265 v266 v267 v268 v269 v270 v271 v272 v273 v274 v275 v276 v277 v278 v279 v280 v281 v282 v283 v284 v285 v286 v287 v288 v289 v290 v291 v292 v293 v294 v295 v296 v297 v298 v299 v300 v301 v302 v303 v304 v305 v306 v307 v308 v309 v310 v311 v312 v313 v314 v315 v316 v317 v318 v319 v320 v321 v322 v323 v324 v325 v326 v327 v328 v329 v330 v331 v332 v333 v334 v335 v336 v337 v338 v339 v340 v341 v342 v343 v344 v345 v346 v347 v348 v349 v350 v351 v352 v353 v354 v355 v356 v357 v358 v359 v360 v361 v362 v363 v364 v365 v366 v367 v368 v369 v370 v371 v372 v373 v374 v375 v376 v377 v378 v379 v380 v381 v382 v383 v384 v385 v386 v387 v388 v389 v390 v391 v392 v393 v394 : Value} :
    Code.wp Try.prog (tlG Try.f4 32) (bodyPost Try.prog Try.f4 (fun e w' => e = .returned (.bool true) ∧ Below W.heap.size W w')) ⟨#[v0, v1, v2, v3, v4, v5, v6, v7, v8, u, dv, .pointer (some ⟨g, 0, none⟩), v12, wv, v14, v15, v16, v17, .pointer (some ⟨bh, 0, none⟩), v19, .pointer (some ⟨bo, 0, none⟩), v21, v22, v23, .pointer (some ⟨bm, 0, none⟩), v25, v26, v27, v28, v29, v30, v31, v32, v33, v34, v35, v36, v37, v38, v39, v40, v41, v42, v43, v44, v45, v46, v47, v48, v49, v50, v51, v52, v53, v54, v55, v56, v57, v58, v59, v60, v61, v62, v63, v64, v65, v66, v67, v68, v69, v70, v71, v72, v73, v74, v75, v76, v77, v78, v79, v80, v81, v82, v83, v84, v85, v86, v87, v88, v89, v90, v91, v92, v93, v94, v95, v96, v97, v98, v99, v100, v101, v102, v103, v104, v105, v106, v107, v108, v109, v110, v111, v112, v113, v114, v115, v116, v117, v118, v119, v120, v121, v122, v123, v124, v125, v126, v127, v128, v129, v130, v131, v132, v133, v134, v135, v136, v137, v138, v139, v140, v141, v142, v143, v144, v145, v146, v147, v148, v149, v150, v151, v152, v153, v154, v155, v156, v157, v158, v159, v160, v161, v162, v163, v164, v165, v166, v167, v168, v169, v170, v171, v172, v173, v174, v175, v176, v177, v178, v179, v180, v181, v182, v183, v184, v185, v186, v187, v188, v189, v190, v191, v192, v193, v194, v195, v196, v197, v198, v199, v200, v201, v202, v203, v204, v205, v206, v207, v208, v209, v210, v211, v212, v213, v214, v215, v216, v217, v218, v219, v220, v221, v222, v223, v224, v225, v226, v227, v228, v229, v230, v231, v232, v233, v234, v235, v236, v237, v238, v239, v240, v241, v242, v243, v244, v245, v246, v247, v248, v249, v250, v251, v252, v253, v254, v255, v256, v257, v258, v259, v260, v261, v262, v263, v264, v265, v266, v267, v268, v269, v270, v271, v272, v273, v274, v275, v276, v277, v278, v279, v280, v281, v282, v283, v284, v285, v286, v287, v288, v289, v290, v291, v292, v293, v294, v295, v296, v297, v298, v299, v300, v301, v302, v303, v304, v305, v306, v307, v308, v309, v310, v311, v312, v313, v314, v315, v316, v317, v318, v319, v320, v321, v322, v323, v324, v325, v326, v327, v328, v329, v330, v331, v332, v333, v334, v335, v336, v337, v338, v339, v340, v341, v342, v343, v344, v345, v346, v347, v348, v349, v350, v351, v352, v353, v354, v355, v356, v357, v358, v359, v360, v361, v362, v363, v364, v365, v366, v367, v368, v369, v370, v371, v372, v373, v374, v375, v376, v377, v378, v379, v380, v381, v382, v383, v384, v385, v386, v387, v388, v389, v390, v391, v392, v393, v394], []⟩ X := by
  have HS : Hid ((∀ Z, Below B X Z → Sta ws m ns g gt D u dv wv W Z) ∧ Ctf ws m D ∧ B ≤ X.heap.size ∧ (∀ i, i < 6 → no i ≤ 1099511627776) ∧ B ≤ bm ∧ bh ≠ bm ∧ Arr bo 51 6 ov X ∧ Fam B 5 1 6 ov no Y X ∧ HitD B bh bm X) := ⟨hS, C, hB, hn, hbm, hnm, ao, FO, hH⟩
  clear hS C hB hn hbm hnm ao FO hH
  conv => arg 2; whnf
  refine wp_seq_k ?_
  intro K hK
  have HK2 : Hid (∀ q w, Code.wp Try.prog (tlG Try.f4 33) (bodyPost Try.prog Try.f4 (fun e w' => e = .returned (.bool true) ∧ Below W.heap.size W w')) q w → K q w) := hK
  clear hK
  go_wp2_with fail
  obtain ⟨hS, C, hB, hn, hbm, hnm, ao, FO, hH⟩ := HS.out
  have hb : Below X.heap.size X (X.alloc (.cells #[.slice none 0 0, .slice none 0 0, .slice none 0 0, .slice none 0 0, .slice none 0 0, .slice none 0 0] 51)) := (Below.refl _ X).alloc (Nat.le_refl _) _
  exact HK2.out _ _ (fr33 W _ bh bm bo X.heap.size B ov no C (fun Z hZ => hS Z ((hb.mono hB).trans hZ)) (Nat.le_trans hB hb.size) hB (Nat.ne_of_lt ao.lt) hbm hnm ⟨⟨Y, FO.below hb (Nat.le_refl _), fun j hj => by omega, fun q hq => by omega⟩, ao.keep (hb.block bo ao.lt), ⟨fun _ => .slice none 0 0, _, heap_alloc_new X _, nil6⟩, hH.keep hb.size (fun g cur t hc _ => hb.block g (Array.getElem?_eq_some_iff.1 hc).1), Below.refl _ _⟩ hn)
end Go.Proofs.Ytceaklefdahfkab

/- SieveFresh: FrP. -/
namespace Go.Proofs.Ytceaklefdahfkab
open Go.RowKit
def stHf (a v : Value) : Sem Unit := Instr.storeAt 39 a v
theorem toStHf (a v : Value) : Instr.storeAt 39 a v = stHf a v := rfl
theorem run_stHf (W : World) (bx o : Nat) (c0 c1 : Value) (h0 : W.cell? ⟨bx, o, none⟩ = some c0) (h1 : W.cell? ⟨bx, o + 1, none⟩ = some c1) (f0 : W.frozen? ⟨bx, o, none⟩ = false) (f1 : W.frozen? ⟨bx, o + 1, none⟩ = false) (x y : Int) : (stHf (.pointer (some ⟨bx, o, none⟩)) (.agg #[.int .i64 x, .int .i64 y])).run Try.prog W = .ok () ((W.setCell ⟨bx, o, none⟩ (.int .i64 x)).setCell ⟨bx, o + 1, none⟩ (.int .i64 y)) := by
  unfold stHf
  exact run_storeAt_mid (P := Try.prog) W bx o 39 #[.int .i64 x, .int .i64 y] (fun j hj => by
    have hj2 : j < 2 := hj
    match j, hj2 with
    | 0, _ => exact ⟨by rw [Nat.add_zero, h0]; rfl, f0⟩
    | 1, _ => exact ⟨by rw [h1]; rfl, f1⟩) (by kernel_rfl) (by simp [Value.oneCell'])
/-- The bytes' lists, as they came. -/
def OutC (B bo : Nat) (X : World) : Prop := ∃ (ov : Nat → Value) (no : Nat → Nat) (Y : Nat → List Value), Arr bo 51 6 ov X ∧ Fam B 5 1 6 ov no Y X ∧ (∀ i, i < 6 → no i ≤ 1099511627776)
theorem OutC.keep {B bo : Nat} {X X' : World} (h : OutC B bo X) (hs : X.heap.size ≤ X'.heap.size) (hk : ∀ (g : Nat) (cur : Array Value) (t : TypeId), X.heap[g]? = some (Obj.cells cur t (0, 0)) → t = 5 ∨ t = 51 → X'.heap[g]? = X.heap[g]?) : OutC B bo X' := by
  obtain ⟨ov, no, Y, ⟨c1, h1, h1'⟩, h3, h4⟩ := h
  exact ⟨ov, no, Y, ⟨c1, (hk bo _ _ h1 (.inr rfl)).trans h1, h1'⟩, h3.keep hs (fun i g hi hg hz => by
    obtain ⟨_, _, cur, hc⟩ := (h3.ow i hi).blk g hg
    exact hk g cur 5 hc (.inl rfl)), h4⟩
/-- How it stands while the hits are written full. -/
structure Wrh (B bo bh bm : Nat) (hv : Nat → Value) (nh : Nat → Nat) (X : World) (i k : Nat) (w : World) : Prop where
  ex : ∃ Y, Fam B 39 2 4 hv nh Y w ∧ (∀ j, j < i → ∀ q, q < nh j → (Y j)[q * 2]? = some (.int .i64 (1000 + (j : Int))) ∧ (Y j)[q * 2 + 1]? = some (.int .i64 (-(q : Int)))) ∧ (∀ q, q < k → (Y i)[q * 2]? = some (.int .i64 (1000 + (i : Int))) ∧ (Y i)[q * 2 + 1]? = some (.int .i64 (-(q : Int))))
  ah : Arr bh 50 4 hv w
  am : ∃ fm, Arr bm 50 4 fm w
  hO : OutC B bo w
  bl : Below B X w
theorem Wrh.next {B bo bh bm : Nat} {hv : Nat → Value} {nh : Nat → Nat} {X w : World} {i : Nat} (h : Wrh B bo bh bm hv nh X i (nh i) w) : Wrh B bo bh bm hv nh X (i + 1) 0 w := by
  obtain ⟨Y, h1, h2, h3⟩ := h.ex
  refine ⟨⟨Y, h1, fun j hj q hq => ?_, fun q hq => by omega⟩, h.ah, h.am, h.hO, h.bl⟩
  by_cases hji : j = i
  · subst hji; exact h3 q hq
  · exact h2 j (by omega) q hq
theorem Wrh.step {B bo bh bm : Nat} {hv : Nat → Value} {nh : Nat → Nat} {X w : World} {i k : Nat} (h : Wrh B bo bh bm hv nh X i k w) (hi : i < 4) (hk : k < nh i) :
    ∃ c gg, w.cell? ⟨bh, i, none⟩ = some (.slice (some ⟨gg, 0, none⟩) (nh i) c) ∧ (stHf (.pointer (some ⟨gg, k * 2, none⟩)) (.agg #[.int .i64 (1000 + (i : Int)), .int .i64 (-(k : Int))])).run Try.prog w = .ok () ((w.setCell ⟨gg, k * 2, none⟩ (.int .i64 (1000 + (i : Int)))).setCell ⟨gg, k * 2 + 1, none⟩ (.int .i64 (-(k : Int)))) ∧ Wrh B bo bh bm hv nh X i (k + 1) ((w.setCell ⟨gg, k * 2, none⟩ (.int .i64 (1000 + (i : Int)))).setCell ⟨gg, k * 2 + 1, none⟩ (.int .i64 (-(k : Int)))) := by
  obtain ⟨Y, h1, h2, h3⟩ := h.ex
  have o1 := h1.ow i hi
  obtain ⟨gg, c, e1, gB, gz, _⟩ := o1.pos (by omega)
  have hb : bk (hv i) = some gg := by rw [e1]; rfl
  have c1 := h.ah.cell i hi
  rw [e1] at c1
  have hl : (Y i).length = nh i * 2 := o1.1
  obtain ⟨old, hold⟩ : ∃ old, (Y i)[k * 2]? = some old := ⟨_, List.getElem?_eq_getElem (by omega)⟩
  obtain ⟨old2, hold2⟩ : ∃ old, (Y i)[k * 2 + 1]? = some old := ⟨_, List.getElem?_eq_getElem (by omega)⟩
  obtain ⟨_, _, cg, hcg⟩ := o1.blk gg hb
  obtain ⟨w1, hw1⟩ : ∃ w1, w.setCell ⟨gg, k * 2, none⟩ (.int .i64 (1000 + (i : Int))) = w1 := ⟨_, rfl⟩
  have hcg1 : w1.heap[gg]? = some (.cells (cg.setIfInBounds (k * 2) (.int .i64 (1000 + (i : Int)))) 39 (0, 0)) := by rw [← hw1]; exact heap_setCell_same w _ _ _ _ _ hcg
  have h1a := h1.set hi hb (k * 2) (.int .i64 (1000 + (i : Int)))
  rw [hw1] at h1a
  have h1b := h1a.set hi hb (k * 2 + 1) (.int .i64 (-(k : Int)))
  have hkp : ∀ (g : Nat) (cur : Array Value) (t : TypeId), w.heap[g]? = some (Obj.cells cur t (0, 0)) → t ≠ 39 → (w1.setCell ⟨gg, k * 2 + 1, none⟩ (.int .i64 (-(k : Int)))).heap[g]? = w.heap[g]? := fun g cur t hc ht => by
    have hne : g ≠ gg := fun e => by
      subst e
      rw [hcg] at hc
      injection hc with hc
      injection hc with _ hc
      exact ht hc.symm
    rw [heap_setCell_other w1 _ _ _ hne, ← hw1, heap_setCell_other w _ _ _ hne]
  refine ⟨c + 1, gg, c1, run_stHf w gg _ old old2 (o1.cell hb _ _ hold) (o1.cell hb _ _ hold2) (o1.frozen hb _) (o1.frozen hb _) _ _, ?_⟩
  rw [hw1]
  refine ⟨⟨_, h1b, fun j hj q hq => ?_, fun q hq => ?_⟩, ?_, ?_, h.hO.keep (by rw [← hw1]; simp) (fun g cur t hc ht => hkp g cur t hc (by rcases ht with rfl | rfl <;> decide)), ?_⟩
  · rw [updF_other _ _ _ _ (by omega), updF_other _ _ _ _ (by omega)]
    exact h2 j hj q hq
  · rw [updF_same, updF_same]
    by_cases hqk : q = k
    · subst hqk
      rw [List.getElem?_set_ne (by omega), List.getElem?_set_self (by omega), List.getElem?_set_self (by rw [List.length_set]; omega)]
      exact ⟨rfl, rfl⟩
    · rw [List.getElem?_set_ne (by omega), List.getElem?_set_ne (by omega), List.getElem?_set_ne (by omega), List.getElem?_set_ne (by omega)]
      exact h3 q (by omega)
  · obtain ⟨cu, q1, q2⟩ := h.ah
    exact ⟨cu, (hkp bh cu 50 q1 (by decide)).trans q1, q2⟩
  · obtain ⟨fm, cu, q1, q2⟩ := h.am
    exact ⟨fm, cu, (hkp bm cu 50 q1 (by decide)).trans q1, q2⟩
  · rw [← hw1]
    exact (h.bl.setCell (p := ⟨gg, k * 2, none⟩) gB _).setCell (p := ⟨gg, k * 2 + 1, none⟩) gB _
theorem Wrh.len {B bo bh bm : Nat} {hv : Nat → Value} {nh : Nat → Nat} {X w : World} {i k : Nat} (h : Wrh B bo bh bm hv nh X i k w) (hi : i < 4) : ∃ o c, w.cell? ⟨bh, i, none⟩ = some (.slice o (nh i) c) := by
  obtain ⟨Y, h1, h2, h3⟩ := h.ex
  obtain ⟨o, c, e1, _⟩ := (h1.ow i hi).form
  have c1 := h.ah.cell i hi
  rw [e1] at c1
  exact ⟨o, c, c1⟩
section
attribute [local go_sem ↓] toStHf
set_option maxRecDepth 100000 in
set_option maxHeartbeats 6400000 in
theorem fr25 {ws : List ByteArray} {m : Nat} {ns : List Nat} {g gt : Nat} {D : List Nat} {u dv wv : Value} (W X : World) (bh bm bo B : Nat) (hv : Nat → Value) (nh : Nat → Nat) (C : Ctf ws m D) (hS : ∀ Z, Below B X Z → Sta ws m ns g gt D u dv wv W Z) (hB : B ≤ X.heap.size) (hbm : B ≤ bm) (hnm : bh ≠ bm) (hO : Wrh B bo bh bm hv nh X 0 0 X) (hn : ∀ i, i < 4 → nh i ≤ 1099511627776) {v0 v1 v2 v3 v4 v5 v6 v7 v8 v12 v14 v15 v16 v17 v19 v21 v22 v23 v25 v26 v27 v28 v29 v30 v31 v32 v33 v34 v35 v36 v37 v38 v39 v40 v41 v42 v43 v44 v45 v46 v47 v48 v49 v50 v51 v52 v53 v54 v55 v56 v57 v58 v59 v60 v61 v62 v63 v64 v65 v66 v67 v68 v69 v70 v71 v72 v73 v74 v75 v76 v77 v78 v79 v80 v81 v82 v83 v84 v85 v86 v87 v88 v89 v90 v91 v92 v93 v94 v95 v96 v97 v98 v99 v100 v101 v102 v103 v104 v105 v106 v107 v108 v109 v110 v111 v112 v113 v114 v115 v116 v117 v118 v119 v120 v121 v122 v123 v124 v125 v126 v127 v128 v129 v130 v131 v132 v133 v134 v135 v136 v137 v138 v139 v140 v141 v142 v143 v144 v145 v146 v147 v148 v149 v150 v151 v152 v153 v154 v155 v156 v157 v158 v159 v160 v161 v162 v163 v164 v165 v166 v167 v168 v169 v170 v171 v172 v173 v174 v175 v176 v177 v178 v179 v180 v181 v182 v183 v184 v185 v186 v187 v188 v189 v190 v191 v192 v193 v194 v195 v196 v197 v198 v199 v200 v201 v202 v203 v204 v205 v206 v207 v208 v209 v210 v211 v212 v213 v214 v215 v216 v217 v218 v219 v220 v221 v222 v223 v224 v225 v226 v227 v228 v229 v230 v231 v232 v233 v234 v235 v236 v237 v238 v239 v240 v241 v242 v243 v244 v245 v246 v247 v248 v249 v250 v251 v252 v253 v254 v255 v256 v257 v258 v259 v260 v261 v262 v263 v264 v265 v266 v267 v268 v269 v270 v271 v272 v273 v274 v275 v276 v277 v278 v279 v280 v281 v282 v283 v284 v285 v286 v287 v288 v289 v290 v291 v292 v293 v294 v295 v296 v297 v298 v299 v300 v301 v302 v303 v304 v305 v306 v307 v308 v309 v310 v311 v312 v313 v314 v315 v316 v317 v318 v319 v320 v321 v322 v323 v324 v325 v326 v327 v328 v329 v330 v331 v332 v333 v334 v335 v336 v337 v338 v339 v340 v341 v342 v343 v344 v345 v346 v347 v348 v349 v350 v351 v352 v353 v354 v355 v356 v357 v358 v359 v360 v361 v362 v363 v364 v365 v366 v367 v368 v369 v370 v371 v372 v373 v374 v375 v376 v377 v378 v379 v380 v381 v382 v383 v384 v385 v386 v387 v388 v389 v390 v391 v392 v393 v394 : Value} :
    Code.wp Try.prog (tlG Try.f4 25) (bodyPost Try.prog Try.f4 (fun e w' => e = .returned (.bool true) ∧ Below W.heap.size W w')) ⟨#[v0, v1, v2, v3, v4, v5, v6, v7, v8, u, dv, .pointer (some ⟨g, 0, none⟩), v12, wv, v14, v15, v16, v17, .pointer (some ⟨bh, 0, none⟩), v19, .pointer (some ⟨bo, 0, none⟩), v21, v22, v23, .pointer (some ⟨bm, 0, none⟩), v25, v26, v27, v28, v29, v30, v31, v32, v33, v34, v35, v36, v37, v38, v39, v40, v41, v42, v43, v44, v45, v46, v47, v48, v49, v50, v51, v52, v53, v54, v55, v56, v57, v58, v59, v60, v61, v62, v63, v64, v65, v66, v67, v68, v69, v70, v71, v72, v73, v74, v75, v76, v77, v78, v79, v80, v81, v82, v83, v84, v85, v86, v87, v88, v89, v90, v91, v92, v93, v94, v95, v96, v97, v98, v99, v100, v101, v102, v103, v104, v105, v106, v107, v108, v109, v110, v111, v112, v113, v114, v115, v116, v117, v118, v119, v120, v121, v122, v123, v124, v125, v126, v127, v128, v129, v130, v131, v132, v133, v134, v135, v136, v137, v138, v139, v140, v141, v142, v143, v144, v145, v146, v147, v148, v149, v150, v151, v152, v153, v154, v155, v156, v157, v158, v159, v160, v161, v162, v163, v164, v165, v166, v167, v168, v169, v170, v171, v172, v173, v174, v175, v176, v177, v178, v179, v180, v181, v182, v183, v184, v185, v186, v187, v188, v189, v190, v191, v192, v193, v194, v195, v196, v197, v198, v199, v200, v201, v202, v203, v204, v205, v206, v207, v208, v209, v210, v211, v212, v213, v214, v215, v216, v217, v218, v219, v220, v221, v222, v223, v224, v225, v226, v227, v228, v229, v230, v231, v232, v233, v234, v235, v236, v237, v238, v239, v240, v241, v242, v243, v244, v245, v246, v247, v248, v249, v250, v251, v252, v253, v254, v255, v256, v257, v258, v259, v260, v261, v262, v263, v264, v265, v266, v267, v268, v269, v270, v271, v272, v273, v274, v275, v276, v277, v278, v279, v280, v281, v282, v283, v284, v285, v286, v287, v288, v289, v290, v291, v292, v293, v294, v295, v296, v297, v298, v299, v300, v301, v302, v303, v304, v305, v306, v307, v308, v309, v310, v311, v312, v313, v314, v315, v316, v317, v318, v319, v320, v321, v322, v323, v324, v325, v326, v327, v328, v329, v330, v331, v332, v333, v334, v335, v336, v337, v338, v339, v340, v341, v342, v343, v344, v345, v346, v347, v348, v349, v350, v351, v352, v353, v354, v355, v356, v357, v358, v359, v360, v361, v362, v363, v364, v365, v366, v367, v368, v369, v370, v371, v372, v373, v374, v375, v376, v377, v378, v379, v380, v381, v382, v383, v384, v385, v386, v387, v388, v389, v390, v391, v392, v393, v394], []⟩ X := by
  have HS : Hid ((∀ Z, Below B X Z → Sta ws m ns g gt D u dv wv W Z) ∧ Ctf ws m D ∧ B ≤ X.heap.size ∧ (∀ i, i < 4 → nh i ≤ 1099511627776) ∧ B ≤ bm ∧ bh ≠ bm) := ⟨hS, C, hB, hn, hbm, hnm⟩
  have HL : Hid (Wrh B bo bh bm hv nh X 0 0 X) := hO
  clear hS C hB hn hbm hnm hO
  conv => arg 2; whnf
  refine wp_seq_k ?_
  intro K hK
  have HK2 : Hid (∀ q w, Code.wp Try.prog (tlG Try.f4 32) (bodyPost Try.prog Try.f4 (fun e w' => e = .returned (.bool true) ∧ Below W.heap.size W w')) q w → K q w) := hK
  clear hK
  go_wp2_with fail
  go_loopw [25] (fun iv wr => ∃ i : Nat, iv = .int .i64 (i : Int) ∧ i ≤ 4 ∧ Hid (Wrh B bo bh bm hv nh X i 0 wr)) (fun iv _ => 4 - (intOf iv).toNat)
  case atStart => exact ⟨0, rfl, by omega, HL.out⟩
  case round =>
    clear HL
    obtain ⟨i, rfl, hi, HL⟩ := hrel
    by_cases hlt : i < 4
    · have i0 : (0 : Int) ≤ (i : Int) := by omega
      have i6 := c4 i hlt
      have q2 := w1000 i hlt
      obtain ⟨n, en⟩ : ∃ n, nh i = n := ⟨_, rfl⟩
      have hno : n ≤ 1099511627776 := by rw [← en]; exact HS.out.2.2.2.1 i hlt
      have HEN : Hid (nh i = n ∧ i < 4) := ⟨en, hlt⟩
      clear en hlt hi
      go_wp2_with fail
      go_loopw [26] (fun kv wr2 => ∃ k : Nat, kv = .int .i64 (k : Int) ∧ k ≤ n ∧ Hid (Wrh B bo bh bm hv nh X i k wr2)) (fun kv _ => n - (intOf kv).toNat)
      case atStart => exact ⟨0, rfl, by omega, HL.out⟩
      case round =>
        clear HL
        obtain ⟨k, rfl, hk, HL⟩ := hrel
        by_cases hlt : k < n
        · obtain ⟨c, gg, k1, r1, hnx⟩ := HL.out.step HEN.out.2 (by rw [HEN.out.1]; exact hlt)
          rw [HEN.out.1] at k1
          obtain ⟨e0, e1⟩ := lt_int hlt
          have q3 := wneg k (by omega)
          obtain ⟨w9, hw9⟩ : ∃ w9, ((wr.setCell ⟨gg, k * 2, none⟩ (.int .i64 (1000 + (i : Int)))).setCell ⟨gg, k * 2 + 1, none⟩ (.int .i64 (-(k : Int)))) = w9 := ⟨_, rfl⟩
          rw [hw9] at r1 hnx
          have HN : Hid _ := hnx
          have HKN : Hid (k < n) := hlt
          clear hnx HL hk hlt hw9
          go_wp2
          go_roundw
          case rel => exact ⟨k + 1, by simp, HKN.out, HN.out⟩
          case measure =>
            have := HKN.out
            clear HS HN k1 r1 HK2
            simp [intOf]; omega
        · have hkn : k = n := by omega
          subst hkn
          obtain ⟨o, c, k1⟩ := HL.out.len HEN.out.2
          rw [HEN.out.1] at k1
          have HN : Hid (Wrh B bo bh bm hv nh X (i + 1) 0 wr) := Wrh.next (by rw [HEN.out.1]; exact HL.out)
          clear HL hk hlt
          go_wp2
          go_roundw
          case rel => exact ⟨i + 1, by simp, HEN.out.2, HN.out⟩
          case measure =>
            have := HEN.out.2
            clear HS HN k1 HK2
            simp [intOf]; omega
    · have hin : i = 4 := by omega
      subst hin
      go_wp2_with fail
      obtain ⟨XH, x1, x2, _⟩ := HL.out.ex
      obtain ⟨fm, x3⟩ := HL.out.am
      obtain ⟨ov, no, Y, y1, y2, y3⟩ := HL.out.hO
      exact HK2.out _ _ (fr32 W wr bh bm bo B ov no Y HS.out.2.1 (fun Z hZ => HS.out.1 Z (HL.out.bl.trans hZ)) (Nat.le_trans HS.out.2.2.1 HL.out.bl.size) HS.out.2.2.2.2.1 HS.out.2.2.2.2.2 y1 y2 y3 ⟨hv, fm, nh, XH, HL.out.ah, x3, x1, fun i hi k hk => x2 i hi k hk, HS.out.2.2.2.1⟩)
end
set_option maxRecDepth 100000 in
set_option maxHeartbeats 6400000 in
theorem fr24 {ws : List ByteArray} {m : Nat} {ns : List Nat} {g gt : Nat} {D : List Nat} {u dv wv : Value} (W X : World) (bh bo B : Nat) (hv : Nat → Value) (nh : Nat → Nat) (XH : Nat → List Value) (C : Ctf ws m D) (hS : ∀ Z, Below B X Z → Sta ws m ns g gt D u dv wv W Z) (hB : B ≤ X.heap.size) (ah : Arr bh 50 4 hv X) (FH : Fam B 39 2 4 hv nh XH X) (hn : ∀ i, i < 4 → nh i ≤ 1099511627776) (hO : OutC B bo X) {v0 v1 v2 v3 v4 v5 v6 v7 v8 v12 v14 v15 v16 v17 v19 v21 v22 v23 v24 v25 v26 v27 v28 v29 v30 v31 v32 v33 v34 v35 v36 v37 v38 v39 v40 v41 v42 v43 v44 v45 v46 v47 v48 v49 v50 v51 v52 v53 v54 v55 v56 v57 v58 v59 v60 v61 v62 v63 v64 v65 v66 v67 v68 v69 v70 v71 v72 v73 v74 v75 v76 v77 v78 v79 v80 v81 v82 v83 v84 v85 v86 v87 v88 v89 v90 v91 v92 v93 v94 v95 v96 v97 v98 v99 v100 v101 v102 v103 v104 v105 v106 v107 v108 v109 v110 v111 v112 v113 v114 v115 v116 v117 v118 v119 v120 v121 v122 v123 v124 v125 v126 v127 v128 v129 v130 v131 v132 v133 v134 v135 v136 v137 v138 v139 v140 v141 v142 v143 v144 v145 v146 v147 v148 v149 v150 v151 v152 v153 v154 v155 v156 v157 v158 v159 v160 v161 v162 v163 v164 v165 v166 v167 v168 v169 v170 v171 v172 v173 v174 v175 v176 v177 v178 v179 v180 v181 v182 v183 v184 v185 v186 v187 v188 v189 v190 v191 v192 v193 v194 v195 v196 v197 v198 v199 v200 v201 v202 v203 v204 v205 v206 v207 v208 v209 v210 v211 v212 v213 v214 v215 v216 v217 v218 v219 v220 v221 v222 v223 v224 v225 v226 v227 v228 v229 v230 v231 v232 v233 v234 v235 v236 v237 v238 v239 v240 v241 v242 v243 v244 v245 v246 v247 v248 v249 v250 v251 v252 v253 v254 v255 v256 v257 v258 v259 v260 v261 v262 v263 v264 v265 v266 v267 v268 v269 v270 v271 v272 v273 v274 v275 v276 v277 v278 v279 v280 v281 v282 v283 v284 v285 v286 v287 v288 v289 v290 v291 v292 v293 v294 v295 v296 v297 v298 v299 v300 v301 v302 v303 v304 v305 v306 v307 v308 v309 v310 v311 v312 v313 v314 v315 v316 v317 v318 v319 v320 v321 v322 v323 v324 v325 v326 v327 v328 v329 v330 v331 v332 v333 v334 v335 v336 v337 v338 v339 v340 v341 v342 v343 v344 v345 v346 v347 v348 v349 v350 v351 v352 v353 v354 v355 v356 v357 v358 v359 v360 v361 v362 v363 v364 v365 v366 v367 v368 v369 v370 v371 v372 v373 v374 v375 v376 v377 v378 v379 v380 v381 v382 v383 v384 v385 v386 v387 v388 v389 v390 v391 v392 v393 v394 : Value} :
    Code.wp Try.prog (tlG Try.f4 24) (bodyPost Try.prog Try.f4 (fun e w' => e = .returned (.bool true) ∧ Below W.heap.size W w')) ⟨#[v0, v1, v2, v3, v4, v5, v6, v7, v8, u, dv, .pointer (some ⟨g, 0, none⟩), v12, wv, v14, v15, v16, v17, .pointer (some ⟨bh, 0, none⟩), v19, .pointer (some ⟨bo, 0, none⟩), v21, v22, v23, v24, v25, v26, v27, v28, v29, v30, v31, v32, v33, v34, v35, v36, v37, v38, v39, v40, v41, v42, v43, v44, v45, v46, v47, v48, v49, v50, v51, v52, v53, v54, v55, v56, v57, v58, v59, v60, v61, v62, v63, v64, v65, v66, v67, v68, v69, v70, v71, v72, v73, v74, v75, v76, v77, v78, v79, v80, v81, v82, v83, v84, v85, v86, v87, v88, v89, v90, v91, v92, v93, v94, v95, v96, v97, v98, v99, v100, v101, v102, v103, v104, v105, v106, v107, v108, v109, v110, v111, v112, v113, v114, v115, v116, v117, v118, v119, v120, v121, v122, v123, v124, v125, v126, v127, v128, v129, v130, v131, v132, v133, v134, v135, v136, v137, v138, v139, v140, v141, v142, v143, v144, v145, v146, v147, v148, v149, v150, v151, v152, v153, v154, v155, v156, v157, v158, v159, v160, v161, v162, v163, v164, v165, v166, v167, v168, v169, v170, v171, v172, v173, v174, v175, v176, v177, v178, v179, v180, v181, v182, v183, v184, v185, v186, v187, v188, v189, v190, v191, v192, v193, v194, v195, v196, v197, v198, v199, v200, v201, v202, v203, v204, v205, v206, v207, v208, v209, v210, v211, v212, v213, v214, v215, v216, v217, v218, v219, v220, v221, v222, v223, v224, v225, v226, v227, v228, v229, v230, v231, v232, v233, v234, v235, v236, v237, v238, v239, v240, v241, v242, v243, v244, v245, v246, v247, v248, v249, v250, v251, v252, v253, v254, v255, v256, v257, v258, v259, v260, v261, v262, v263, v264, v265, v266, v267, v268, v269, v270, v271, v272, v273, v274, v275, v276, v277, v278, v279, v280, v281, v282, v283, v284, v285, v286, v287, v288, v289, v290, v291, v292, v293, v294, v295, v296, v297, v298, v299, v300, v301, v302, v303, v304, v305, v306, v307, v308, v309, v310, v311, v312, v313, v314, v315, v316, v317, v318, v319, v320, v321, v322, v323, v324, v325, v326, v327, v328, v329, v330, v331, v332, v333, v334, v335, v336, v337, v338, v339, v340, v341, v342, v343, v344, v345, v346, v347, v348, v349, v350, v351, v352, v353, v354, v355, v356, v357, v358, v359, v360, v361, v362, v363, v364, v365, v366, v367, v368, v369, v370, v371, v372, v373, v374, v375, v376, v377, v378, v379, v380, v381, v382, v383, v384, v385, v386, v387, v388, v389, v390, v391, v392, v393, v394], []⟩ X := by
  have HS : Hid ((∀ Z, Below B X Z → Sta ws m ns g gt D u dv wv W Z) ∧ Ctf ws m D ∧ B ≤ X.heap.size ∧ (∀ i, i < 4 → nh i ≤ 1099511627776) ∧ Arr bh 50 4 hv X ∧ Fam B 39 2 4 hv nh XH X ∧ OutC B bo X) := ⟨hS, C, hB, hn, ah, FH, hO⟩
  clear hS C hB hn ah FH hO
  conv => arg 2; whnf
  refine wp_seq_k ?_
  intro K hK
  have HK2 : Hid (∀ q w, Code.wp Try.prog (tlG Try.f4 25) (bodyPost Try.prog Try.f4 (fun e w' => e = .returned (.bool true) ∧ Below W.heap.size W w')) q w → K q w) := hK
  clear hK
  go_wp2_with fail
  obtain ⟨hS, C, hB, hn, ah, FH, hO⟩ := HS.out
  have hb : Below X.heap.size X (X.alloc (.cells #[.slice none 0 0, .slice none 0 0, .slice none 0 0, .slice none 0 0] 50)) := (Below.refl _ X).alloc (Nat.le_refl _) _
  exact HK2.out _ _ (fr25 W _ bh X.heap.size bo B hv nh C (fun Z hZ => hS Z ((hb.mono hB).trans hZ)) (Nat.le_trans hB hb.size) hB (Nat.ne_of_lt ah.lt) ⟨⟨XH, FH.below hb (Nat.le_refl _), fun j hj => by omega, fun q hq => by omega⟩, ah.keep (hb.block bh ah.lt), ⟨fun _ => .slice none 0 0, _, heap_alloc_new X _, nil4⟩, hO.keep hb.size (fun g cur t hc _ => hb.block g (Array.getElem?_eq_some_iff.1 hc).1), Below.refl _ _⟩ hn)
end Go.Proofs.Ytceaklefdahfkab

/- SieveFresh: lists that come one behind the other. -/
namespace Go.Proofs.Ytceaklefdahfkab
open Go.RowKit
/-- What a call leaves of lists and arrays. -/
structure KC (w w' : World) : Prop where
  size : w.heap.size ≤ w'.heap.size
  blk : ∀ (g : Nat) (cur : Array Value) (t : TypeId), w.heap[g]? = some (Obj.cells cur t (0, 0)) → t = 5 ∨ t = 39 ∨ t = 50 ∨ t = 51 → w'.heap[g]? = w.heap[g]?
theorem KC.below {w w' : World} (h : Below w.heap.size w w') : KC w w' := ⟨h.size, fun g _ _ hc _ => h.block g (Array.getElem?_eq_some_iff.1 hc).1⟩
theorem KC.but {gs : Nat} {w w' : World} {cs : Array Value} (h : But gs w w') (hg : w.heap[gs]? = some (.cells cs 90 (0, 0))) : KC w w' := ⟨h.size, fun g cur t hc ht => h.block g (Array.getElem?_eq_some_iff.1 hc).1 (fun e => by
  subst e
  rw [hg] at hc
  injection hc with hc
  injection hc with _ hc
  rcases ht with rfl | rfl | rfl | rfl <;> cases hc)⟩
theorem KC.bur {gr : Nat} {w w' : World} {cs : Array Value} (h : Bur gr w w') (hg : w.heap[gr]? = some (.cells cs 94 (0, 0))) : KC w w' := ⟨h.size, fun g cur t hc ht => h.block g (Array.getElem?_eq_some_iff.1 hc).1 (fun e => by
  subst e
  rw [hg] at hc
  injection hc with hc
  injection hc with _ hc
  rcases ht with rfl | rfl | rfl | rfl <;> cases hc)⟩
theorem Arr.kc {b N : Nat} {e : TypeId} {f : Nat → Value} {w w' : World} (h : Arr b e N f w) (he : e = 50 ∨ e = 51) (hk : KC w w') : Arr b e N f w' := by
  obtain ⟨cur, h1, h2⟩ := h
  exact ⟨cur, (hk.blk b cur e h1 (.inr (.inr he))).trans h1, h2⟩
/-- One of the lists: its kind, where it lies. -/
structure En where
  e : Nat
  sz : Nat
  v : Value
  n : Nat
  xs : List Value
  lo : Nat
  hi : Nat
def EnOk (x : En) (w : World) : Prop := (x.e = 5 ∨ x.e = 39) ∧ Ow x.lo x.e x.sz x.v x.n x.xs w ∧ x.hi ≤ w.heap.size ∧ ∀ k, bk x.v = some k → k < x.hi
def Alls (L : List En) (w : World) : Prop := ∀ x ∈ L, EnOk x w
theorem Alls.nil (w : World) : Alls [] w := fun x hx => by cases hx
theorem Alls.kc {L : List En} {w w' : World} (h : Alls L w) (hk : KC w w') : Alls L w' := fun x hx => by
  obtain ⟨h1, h2, h3, h4⟩ := h x hx
  refine ⟨h1, h2.keep hk.size (fun g hg _ => ?_), Nat.le_trans h3 hk.size, h4⟩
  obtain ⟨_, _, cur, hc⟩ := h2.blk g hg
  exact hk.blk g cur x.e hc (by rcases h1 with h1 | h1 <;> simp [h1])
theorem Alls.set {L : List En} {w : World} {b N : Nat} {e : TypeId} {f : Nat → Value} (h : Alls L w) (ha : Arr b e N f w) (he : e = 50 ∨ e = 51) (j : Nat) (v : Value) : Alls L (w.setCell ⟨b, j, none⟩ v) := fun x hx => by
  obtain ⟨h1, h2, h3, h4⟩ := h x hx
  refine ⟨h1, h2.setO (fun q => ?_) _ _, by simpa using h3, h4⟩
  obtain ⟨_, _, cur, hc⟩ := h2.blk b q
  exact ha.ne (by rcases h1 with h1 | h1 <;> rcases he with rfl | rfl <;> rw [h1] <;> decide) cur hc
theorem Alls.add {L : List En} {w : World} (h : Alls L w) {e sz n lo : Nat} {v : Value} {xs : List Value} (he : e = 5 ∨ e = 39) (ho : Ow lo e sz v n xs w) : Alls (⟨e, sz, v, n, xs, lo, w.heap.size⟩ :: L) w := fun x hx => by
  rcases List.mem_cons.1 hx with rfl | hx
  · exact ⟨he, ho, Nat.le_refl _, fun k hk => (ho.blk k hk).2.1⟩
  · exact h x hx
/-- Four of them; six of them. -/
def pk4 (a b c d : Value) : Nat → Value
  | 0 => a
  | 1 => b
  | 2 => c
  | _ => d
def pk6 (a b c d e f : Value) : Nat → Value
  | 0 => a
  | 1 => b
  | 2 => c
  | 3 => d
  | 4 => e
  | _ => f
/-- Lists in blocks of rising numbers. -/
theorem fam_of {B e sz N : Nat} {w : World} (E : Nat → En) (hE : ∀ i, i < N → EnOk (E i) w ∧ (E i).e = e ∧ (E i).sz = sz ∧ B ≤ (E i).lo) (hr : ∀ i j, i < j → j < N → (E i).hi ≤ (E j).lo) : Fam B e sz N (fun i => (E i).v) (fun i => (E i).n) (fun i => (E i).xs) w := by
  have hne : ∀ i j, i < j → j < N → ∀ g, bk (E i).v = some g → bk (E j).v ≠ some g := fun i j hij hj g h1 h2 => by
    have a := (hE i (by omega)).1.2.2.2 g h1
    have b := ((hE j hj).1.2.1.blk g h2).1
    have := hr i j hij hj
    omega
  refine ⟨fun i hi => ?_, fun i j hi hj hij g h1 h2 => ?_⟩
  · obtain ⟨⟨_, h2, _⟩, h5, h6, h7⟩ := hE i hi
    rw [h5, h6] at h2
    exact h2.mono h7
  · rcases Nat.lt_or_gt_of_ne hij with h | h
    · exact hne i j h hj g h1 h2
    · exact hne j i h hi g h2 h1
variable {ws : List ByteArray} {m : Nat} {ns : List Nat} {gs gr gt : Nat} {tv dv : Value} {D : List Nat} {w0 w w' : World} {L : Nat}
theorem Fdd.belowN (h : Fdd ws m ns gs gr gt tv dv D w0 L w) {N : Nat} (hb : Below N w w') (h1 : gs < N) (h2 : gr < N) (h3 : ∀ k, tv.ownBlock = some k → k < N) (h4 : ∀ k, dv.ownBlock = some k → k < N) (h5 : w0.heap.size ≤ N) : Fdd ws m ns gs gr gt tv dv D w0 L w' := by
  have hB : Below w0.heap.size w w' := hb.mono h5
  obtain ⟨s, hh, y, hy, hs, hat⟩ := h.sc
  refine ⟨h.tk.keep hb.size (fun j hj _ => hB.block j hj), ⟨s, hh, y, hy, (hb.block gs h1).trans hs, hat⟩, ?_, h.tv.keep hb.size (fun k hk _ => hb.block k (h3 k hk)), h.dv.keep hb.size (fun k hk _ => hb.block k (h4 k hk)), h.bl.trans hB⟩
  rcases h.rw with ⟨y', hy', hov, s2, K, hK, hR, r⟩ | ⟨n, hh, hR⟩
  · exact .inl ⟨y', hy', hov, s2, K, hK, (hb.block gr h2).trans hR, r⟩
  · exact .inr ⟨n, hh, (hb.block gr h2).trans hR⟩
theorem Fdd.rows (h : Fdd ws m ns gs gr gt tv dv D w0 L w) : (∃ cs, w.heap[gs]? = some (.cells cs 90 (0, 0))) ∧ ∃ cs, w.heap[gr]? = some (.cells cs 94 (0, 0)) := by
  obtain ⟨s, hh, y, hy, hs, hat⟩ := h.sc
  refine ⟨⟨_, hs⟩, ?_⟩
  rcases h.rw with ⟨y', hy', hov, s2, K, hK, hR, r⟩ | ⟨n, hh, hR⟩
  · exact ⟨_, hR⟩
  · exact ⟨_, hR⟩
/-- The world behind each step of the law's calls. -/
structure Mid (ws : List ByteArray) (m : Nat) (ns : List Nat) (gs gr gt : Nat) (tv dv : Value) (D : List Nat) (w0 : World) (N Kb : Nat) (L : List En) (w : World) : Prop where
  f : ∃ K, K ≤ Kb ∧ Fdd ws m ns gs gr gt tv dv D w0 K w
  a : Alls L w
  nz : N ≤ w.heap.size
structure MidC (ws : List ByteArray) (ns : List Nat) (gs gr : Nat) (tv dv : Value) (w0 : World) (N : Nat) : Prop where
  ok : NewOk ws ns
  c : Fdc w0 gs gr tv dv
  n1 : gs < N
  n2 : gr < N
  n3 : ∀ k, tv.ownBlock = some k → k < N
  n5 : w0.heap.size ≤ N
theorem Mid.below {N Kb : Nat} {Ls : List En} (h : Mid ws m ns gs gr gt tv dv D w0 N Kb Ls w) (hb : Below w.heap.size w w') : Mid ws m ns gs gr gt tv dv D w0 N Kb Ls w' := by
  obtain ⟨K, hK, hF⟩ := h.f
  exact ⟨⟨K, hK, hF.below hb⟩, h.a.kc (KC.below hb), Nat.le_trans h.nz hb.size⟩
theorem Mid.add {N Kb : Nat} {Ls : List En} (h : Mid ws m ns gs gr gt tv dv D w0 N Kb Ls w) {e sz n lo : Nat} {v : Value} {xs : List Value} (he : e = 5 ∨ e = 39) (ho : Ow lo e sz v n xs w) : Mid ws m ns gs gr gt tv dv D w0 N Kb (⟨e, sz, v, n, xs, lo, w.heap.size⟩ :: Ls) w := ⟨h.f, h.a.add he ho, h.nz⟩
theorem Mid.set {N Kb : Nat} {Ls : List En} (h : Mid ws m ns gs gr gt tv dv D w0 N Kb Ls w) (c : MidC ws ns gs gr tv dv w0 N) {b M : Nat} {e : TypeId} {f : Nat → Value} (ha : Arr b e M f w) (he : e = 50 ∨ e = 51) (hb : N ≤ b) (j : Nat) (v : Value) : Mid ws m ns gs gr gt tv dv D w0 N Kb Ls (w.setCell ⟨b, j, none⟩ v) := by
  obtain ⟨K, hK, hF⟩ := h.f
  exact ⟨⟨K, hK, hF.belowN ((Below.refl N w).setCell (p := ⟨b, j, none⟩) hb v) c.n1 c.n2 c.n3 (fun k hk => by have := c.c.d1 k hk; have := c.n5; omega) c.n5⟩, h.a.set ha he j v, by simpa using h.nz⟩
section
variable {g N Kb : Nat} {u wv : Value} {W : World} {Ls : List En}
theorem Mid.scan (M : Mid ws m ns gs gr gt tv dv D w0 N Kb Ls w) (C : Ctf ws m D) (hS : Sta ws m ns g gt D u dv wv W w) (p : List Nat) (hpb : Byt p) (hpl : p.length ≤ 1073741824) (pv : Value) (hpv : Si .u8 pv p w) :
    Calls Try.prog 11 #[.pointer (some ⟨g, 0, none⟩), pv] w fun e w' => ∃ o cc n, e = .returned (.slice o n cc) ∧ n ≤ 1099511627776 ∧ Hid (n = (hts (ws.map tl) m p).length ∧ Mid ws m ns gs gr gt tv dv D w0 N Kb (⟨39, 2, .slice o n cc, n, hc (hts (ws.map tl) m p), w.heap.size, w'.heap.size⟩ :: Ls) w' ∧ KC w w') := by
  obtain ⟨B0, K0, s0⟩ := hS.sv
  refine (scan_f C.hp s0 p hpb hpl pv hpv).mono ?_
  rintro e w' ⟨v, rfl, H⟩
  obtain ⟨o, cc, rfl, _⟩ := H.out.1.form
  refine ⟨o, cc, _, rfl, ?_, rfl, (M.below H.out.2).add (.inr rfl) H.out.1, KC.below H.out.2⟩
  have := hts_len (ws.map tl) m p C.hp.m0
  omega
theorem Mid.feedC (M : Mid ws m ns gs gr gt tv dv D w0 N Kb Ls w) (c : MidC ws ns gs gr tv dv w0 N) (C : Ctf ws m D) (hKb : Kb ≤ 10000000000) :
    Calls Try.prog 21 #[.pointer (some ⟨gs, 0, none⟩), dv] w fun e w' => ∃ o cc n, e = .returned (.slice o n cc) ∧ n ≤ 1099511627776 ∧ Hid (∃ H, Mid ws m ns gs gr gt tv dv D w0 N (Kb + 1000000000) (⟨39, 2, .slice o n cc, n, hc H, w.heap.size, w'.heap.size⟩ :: Ls) w' ∧ KC w w') := by
  obtain ⟨K, hK, hF⟩ := M.f
  have hsv := C.dl
  obtain ⟨⟨cs, hrow⟩, _⟩ := hF.rows
  refine (hF.feedC c.c C.hp c.ok D C.db (by omega) (by omega) dv hF.dv).mono ?_
  rintro e w' ⟨v, H, rfl, hl, ho, hF', hb⟩
  obtain ⟨o, cc, rfl, _⟩ := ho.form
  have kc := KC.but hb hrow
  exact ⟨o, cc, _, rfl, by omega, H, (⟨⟨_, by omega, hF'⟩, M.a.kc kc, Nat.le_trans M.nz kc.size⟩ : Mid ws m ns gs gr gt tv dv D w0 N (Kb + 1000000000) Ls w').add (.inr rfl) ho, kc⟩
theorem Mid.feedW (M : Mid ws m ns gs gr gt tv dv D w0 N Kb Ls w) (c : MidC ws ns gs gr tv dv w0 N) (C : Ctf ws m D) (hKb : Kb ≤ 10000000000) :
    Calls Try.prog 22 #[.pointer (some ⟨gr, 0, none⟩), dv] w fun e w' => ∃ o cc n f k, e = .returned (.tuple #[.slice o n cc, .int .i64 f, .int .i64 k]) ∧ n ≤ 1099511627776 ∧ Hid (∃ xs, Mid ws m ns gs gr gt tv dv D w0 N (Kb + 1000000000) (⟨5, 1, .slice o n cc, n, xs, w.heap.size, w'.heap.size⟩ :: Ls) w' ∧ KC w w') := by
  obtain ⟨K, hK, hF⟩ := M.f
  have hsv := C.dl
  obtain ⟨_, ⟨cs, hrow⟩⟩ := hF.rows
  refine (hF.feedW c.c C.hp c.ok D C.db (by omega) (by omega) dv hF.dv (fun e => by have h1 := c.c.d1 gr e; have h2 := c.c.r; omega)).mono ?_
  rintro e w' ⟨v, f, k, X, rfl, hl, ho, hF', hb⟩
  obtain ⟨o, cc, rfl, _⟩ := ho.form
  have kc := KC.bur hb hrow
  exact ⟨o, cc, _, f, k, rfl, by omega, _, (⟨⟨_, by omega, hF'⟩, M.a.kc kc, Nat.le_trans M.nz kc.size⟩ : Mid ws m ns gs gr gt tv dv D w0 N (Kb + 1000000000) Ls w').add (.inl rfl) ho, kc⟩
/-- Behind a Close nothing is fed any more. -/
structure Fin (dv : Value) (D : List Nat) (w0 : World) (N : Nat) (L : List En) (w : World) : Prop where
  a : Alls L w
  nz : N ≤ w.heap.size
  bl : Below w0.heap.size w0 w
theorem Mid.close (M : Mid ws m ns gs gr gt tv dv D w0 N Kb Ls w) (c : MidC ws ns gs gr tv dv w0 N) (C : Ctf ws m D) :
    Calls Try.prog 23 #[.pointer (some ⟨gr, 0, none⟩)] w fun e w' => ∃ o cc n f k, e = .returned (.tuple #[.slice o n cc, .int .i64 f, .int .i64 k]) ∧ n ≤ 1099511627776 ∧ Hid (∃ xs, Fin dv D w0 N (⟨5, 1, .slice o n cc, n, xs, w.heap.size, w'.heap.size⟩ :: Ls) w' ∧ KC w w') := by
  obtain ⟨K, hK, hF⟩ := M.f
  obtain ⟨_, ⟨cs, hrow⟩⟩ := hF.rows
  refine (closeS ws m C.hp ns ws gr gt tv K w hF.rw).mono ?_
  rintro e w' ⟨hb, v, f, k, X, rfl, hl, ho⟩
  obtain ⟨o, cc, rfl, _⟩ := ho.form
  have kc := KC.bur hb hrow
  exact ⟨o, cc, _, f, k, rfl, by omega, _, ⟨(M.a.kc kc).add (.inl rfl) ho, Nat.le_trans M.nz kc.size, hF.bl.trans (but_below hb c.c.r hF.bl.size)⟩, kc⟩
theorem Fin.below (h : Fin dv D w0 N Ls w) (hb : Below w.heap.size w w') : Fin dv D w0 N Ls w' := ⟨h.a.kc (KC.below hb), Nat.le_trans h.nz hb.size, h.bl.trans (hb.mono h.bl.size)⟩
theorem Fin.add (h : Fin dv D w0 N Ls w) {e sz n lo : Nat} {v : Value} {xs : List Value} (he : e = 5 ∨ e = 39) (ho : Ow lo e sz v n xs w) : Fin dv D w0 N (⟨e, sz, v, n, xs, lo, w.heap.size⟩ :: Ls) w := ⟨h.a.add he ho, h.nz, h.bl⟩
theorem Fin.set (h : Fin dv D w0 N Ls w) (h5 : w0.heap.size ≤ N) {b M : Nat} {e : TypeId} {f : Nat → Value} (ha : Arr b e M f w) (he : e = 50 ∨ e = 51) (hb : N ≤ b) (j : Nat) (v : Value) : Fin dv D w0 N Ls (w.setCell ⟨b, j, none⟩ v) :=
  ⟨h.a.set ha he j v, by simpa using h.nz, h.bl.setCell (p := ⟨b, j, none⟩) (Nat.le_trans h5 hb) v⟩
theorem rew_e (C : Ctf ws m D) (hS : Sta ws m ns g gt D u dv wv W w) (p : List Nat) (hpb : Byt p) (hpl : p.length ≤ 1073741824) (pv : Value) (hpv : Si .u8 pv p w) :
    Calls Try.prog 13 #[.pointer (some ⟨g, 0, none⟩), pv, u] w fun e w' => ∃ o cc n, e = .returned (.tuple #[.slice o n cc, .int .i64 (rwA m ws p (hts (ws.map tl) m p)).1, .int .i64 (rwA m ws p (hts (ws.map tl) m p)).2.1]) ∧ n ≤ 1099511627776 ∧ Hid (n = (rwA m ws p (hts (ws.map tl) m p)).2.2.length ∧ Ow w.heap.size 5 1 (.slice o n cc) n (ik .u8 (rwA m ws p (hts (ws.map tl) m p)).2.2).toList w' ∧ Below w.heap.size w w') := by
  obtain ⟨B0, K0, s0⟩ := hS.sv
  refine (rewrite_f C.hp s0 ws rfl (pt_allF C.hp) p hpb hpl u pv hS.u hpv).mono ?_
  rintro e w' ⟨v, rfl, H⟩
  obtain ⟨o, cc, rfl, _⟩ := H.out.1.form
  exact ⟨o, cc, _, rfl, by have := H.out.2.1; omega, rfl, H.out.1, H.out.2.2⟩
theorem msk_e (C : Ctf ws m D) (hS : Sta ws m ns g gt D u dv wv W w) :
    Calls Try.prog 14 #[.pointer (some ⟨g, 0, none⟩), dv] w fun e w' => ∃ o cc n o2 c2 n2 f k, e = .returned (.tuple #[.slice o n cc, .slice o2 n2 c2, .int .i64 f, .int .i64 k]) ∧ n ≤ 1099511627776 ∧ n2 ≤ 1099511627776 ∧ Hid ((∃ xs ys, Ow w.heap.size 5 1 (.slice o n cc) n xs w' ∧ Ow w.heap.size 39 2 (.slice o2 n2 c2) n2 ys w') ∧ Below w.heap.size w w') := by
  obtain ⟨B0, K0, s0⟩ := hS.sv
  have hsv := C.dl
  refine (mask_f C.hp s0 D C.db (by omega) dv hS.d).mono ?_
  rintro e w' ⟨v, hv, f, k, X, H0, rfl, H⟩
  obtain ⟨o, cc, rfl, _⟩ := H.out.1.form
  obtain ⟨o2, c2, rfl, _⟩ := H.out.2.1.form
  exact ⟨o, cc, _, o2, c2, _, f, k, rfl, by have := H.out.2.2.1; omega, by have := H.out.2.2.2.1; omega, ⟨_, _, H.out.1, H.out.2.1⟩, H.out.2.2.2.2⟩
end
end Go.Proofs.Ytceaklefdahfkab
