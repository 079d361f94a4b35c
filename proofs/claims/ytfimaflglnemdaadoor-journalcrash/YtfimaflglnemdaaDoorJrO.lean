/- JournalReplays: a record, by tails: its front. -/
import Derived.Test.YtfimaflglnemdaaDoorJrL
import Derived.Test.YtfimaflglnemdaaDoorJr5
namespace Go.Proofs.YtfimaflglnemdaaDoor
open Go.RowKit
open JM in
/-- What is said of a front that is there. -/
def frontX (us : List Ru) (rs : List Nat) (k n len : Nat) : Out Rec :=
  if ¬ (crcN (rs.take 14) = le ((rs.drop 14).take 4)) ∨ hasR us k n len = false then .bad else (if rs.length < 22 + len then Out.torn else if ¬ (crcN ((rs.drop 18).take len) = le ((rs.drop (18 + len)).take 4)) then .bad else .got ⟨k, n, (rs.drop 18).take len⟩)
/-- The world within region 5. -/
structure R5 (w : World) (k n len : Nat) (listed : Array Bool) (W : World) : Prop where
  bl : Below w.heap.size w W
  no : listed.getD 11 true = false → W.heap.size = w.heap.size
  yes : listed.getD 11 true = true → listed.getD 12 true = false → W.heap[w.heap.size]? = some (.cells zRc 142 (0, 0))
  fin : listed.getD 12 true = true → W.heap[w.heap.size]? = some (.cells (rcA k n len (.slice none 0 0)) 142 (0, 0))
theorem set_nf {l : Array Bool} {i j : Nat} (hn : i ≠ j) : (l.setIfInBounds i true).getD j true = l.getD j true := by
  simp only [Array.getD_eq_getD_getElem?, Array.getElem?_setIfInBounds]
  rw [if_neg hn]
theorem R5.mv {w W : World} {k n len : Nat} {listed : Array Bool} (h : R5 w k n len listed W) {i : Nat} (hi : i < 11) : R5 w k n len (listed.setIfInBounds i true) W := by
  have e1 := set_nf (l := listed) (by omega : i ≠ 11)
  have e2 := set_nf (l := listed) (by omega : i ≠ 12)
  exact ⟨h.bl, fun q => h.no (e1 ▸ q), fun q r => h.yes (e1 ▸ q) (e2 ▸ r), fun q => h.fin (e2 ▸ q)⟩
theorem set_eq (l : Array Bool) (i : Nat) : (l.setIfInBounds i true).getD i true = true := by
  simp only [Array.getD_eq_getD_getElem?, Array.getElem?_setIfInBounds]
  by_cases h : i < l.size
  · simp [h]
  · simp [h]
theorem R5.start (w : World) (k n len : Nat) : R5 w k n len (Array.replicate reg5.size false) w.drew := by
  rw [show reg5.size = 13 from by kernel_rfl]
  refine ⟨⟨rfl, rfl, rfl, Nat.le_refl _, fun _ _ => rfl⟩, fun _ => rfl, fun h => ?_, fun h => ?_⟩
  · exact absurd h (by decide)
  · exact absurd h (by decide)
open JM in
attribute [local go_sem ↓] toSlB in
set_option maxRecDepth 100000 in
set_option maxHeartbeats 3200000 in
theorem rec5 (W0 W w : World) {g r0 pos cR : Nat} {rv dv t0 t1 t2 t3 t4 t5 : Value} {oR : Option Addr} {rs : List Nat} {v2 v3 v6 v7 v8 v9 v10 v11 v12 v13 v14 v15 v16 v17 v18 v19 v20 v21 v22 v23 v24 v25 v26 v27 v28 v29 v30 v31 v32 v33 v34 v35 v36 v37 v38 v39 v40 v41 v42 v43 v44 v45 v46 v47 v48 v49 v50 v51 v52 v53 v54 v55 v56 v57 v58 v59 v60 v61 v62 v63 v64 v65 v66 v67 v68 v69 v70 v71 v72 v73 v74 v75 v76 v77 v78 v79 v80 v81 v82 v83 v84 v85 v86 v87 v88 v89 v90 v91 v92 v93 v94 v95 v96 v97 v98 v99 v100 : Value}
    (hg : w.heap[g]? = some (.cells (rdA dv pos pos t0 t1 t2 t3 t4 t5) 130 (0, 0))) (hr : w.heap[r0]? = some (.cells zRc 142 (0, 0)))
    (n2 : g ≠ r0) (hb : But g W w) (hW : W.heap.size ≤ r0) (hlim : pos + 22 + rs.length ≤ 10000000000000)
    (hR : Bl W0 (.slice oR rs.length cR) rs) (h18 : 18 ≤ rs.length) (h0 : W0.heap.size ≤ W.heap.size) (hag : ∀ j, j < W0.heap.size → w.heap[j]? = W0.heap[j]?) (hT : Tc w)
    (us : List Ru) (hus : us.length ≤ 1000) (hU : Rul w rv us)
    (X : Out Rec) (hX : X = frontX us rs (rs.getD 1 0) (le ((rs.drop 2).take 8)) (le ((rs.drop 10).take 4))) :
    Code.wp Tryd.prog (tlG Tryd.f77 5) (bodyPost Tryd.prog Tryd.f77 (RecP g W0 W dv t0 t1 t2 t3 t4 t5 pos X)) ⟨#[.pointer (some ⟨g, 0, none⟩), rv, v2, v3, .pointer (some ⟨r0, 0, none⟩), .slice oR rs.length cR, v6, v7, v8, v9, v10, v11, v12, v13, v14, v15, v16, v17, v18, v19, v20, v21, v22, v23, v24, v25, v26, v27, v28, v29, v30, v31, v32, v33, v34, v35, v36, v37, v38, v39, v40, v41, v42, v43, v44, v45, v46, v47, v48, v49, v50, v51, v52, v53, v54, v55, v56, v57, v58, v59, v60, v61, v62, v63, v64, v65, v66, v67, v68, v69, v70, v71, v72, v73, v74, v75, v76, v77, v78, v79, v80, v81, v82, v83, v84, v85, v86, v87, v88, v89, v90, v91, v92, v93, v94, v95, v96, v97, v98, v99, v100], []⟩ w := by
  have gl : g < w.heap.size := (Array.getElem?_eq_some_iff.1 hg).1
  have rl : r0 < w.heap.size := (Array.getElem?_eq_some_iff.1 hr).1
  have hs0 : W0.heap.size ≤ w.heap.size := Nat.le_trans h0 hb.size
  obtain ⟨oN, sN, bN⟩ := cut_lh hR 2 10 (by omega) (by omega)
  obtain ⟨oL, sL, bL⟩ := cut_lh hR 10 14 (by omega) (by omega)
  rw [show (rs.take 10).drop 2 = (rs.drop 2).take 8 by rw [List.drop_take]] at bN
  rw [show (rs.take 14).drop 10 = (rs.drop 10).take 4 by rw [List.drop_take]] at bL
  obtain ⟨oR', cR', eR, -, -, hby, hcell⟩ := hR.cells
  injection eR with eR1 eR2 eR3
  clear eR2
  subst eR1 eR3
  obtain ⟨gd, od, rfl, hgd, hc⟩ := hcell (by omega)
  have hlen : le ((rs.drop 10).take 4) < 256 ^ 4 := by
    have := le_lt ((rs.drop 10).take 4) (fun x hx => hby x (List.mem_of_mem_drop (List.mem_of_mem_take hx)))
    rwa [show ((rs.drop 10).take 4).length = 4 by rw [List.length_take, List.length_drop]; omega] at this
  have hk8 := hc 1 (by omega)
  have ck : w.cell? ⟨gd, od + 1, none⟩ = some (.int .u8 ((rs.getD 1 0 : Nat) : Int)) := (World.cell?_of_block (w := W0) (a := ⟨gd, od + 1, none⟩) (hag gd hgd)).trans hk8
  generalize hKK : rs.getD 1 0 = k at *
  have RN := mkHid (fun (W' : World) (h : Below w.heap.size w W') => read_any _ ((rs.drop 2).take 8) W' (bN.keep (Nat.le_trans hs0 h.size) (fun j hj => (h.block j (by omega)).trans (hag j hj))) (by rw [List.length_take]; omega))
  have RL := mkHid (fun (W' : World) (h : Below w.heap.size w W') => read_any _ ((rs.drop 10).take 4) W' (bL.keep (Nat.le_trans hs0 h.size) (fun j hj => (h.block j (by omega)).trans (hag j hj))) (by rw [List.length_take]; omega))
  generalize hNN : le ((rs.drop 2).take 8) = n at *
  generalize hLL : le ((rs.drop 10).take 4) = len at *
  have sN' : ∀ W' : World, (slB (.slice (some ⟨gd, od, none⟩) rs.length cR) (some (.int .i64 2)) (some (.int .i64 10)) none).run Tryd.prog W' = .ok (.slice oN 8 (cR - 2)) W' := sN
  have sL' : ∀ W' : World, (slB (.slice (some ⟨gd, od, none⟩) rs.length cR) (some (.int .i64 10)) (some (.int .i64 14)) none).run Tryd.prog W' = .ok (.slice oL 4 (cR - 10)) W' := sL
  clear sN sL
  have hw : IntKind.i64.wrap (len : Int) = (len : Int) := by rw [IntKind.wrap_i64]; omega
  have i1 : (1 : Int) < (rs.length : Int) := by omega
  have HF := mkHid (And.intro hg (And.intro hr (And.intro hb (And.intro hR (And.intro hag (And.intro hT hU))))))
  replace hX := mkHid hX
  clear hg hr hb hR hag hT hU hc hk8 bN bL hcell hby
  conv => arg 2; whnf
  go_wp2_with fail
  rename_i K hK
  have HK := mkHid (show ∀ a w', Code.wp Tryd.prog (tlG Tryd.f77 6) (bodyPost Tryd.prog Tryd.f77 (RecP g W0 W dv t0 t1 t2 t3 t4 t5 pos X)) a w' → K a w' from hK)
  clear hK
  have hd0 : Below w.heap.size w w.drew := ⟨rfl, rfl, rfl, Nat.le_refl _, fun _ _ => rfl⟩
  refine wp_region_vals (ops := reg5) (V := V5 gd od rs.length cR (cR - 2) (cR - 10) k n len w.heap.size oN oL) (S := R5 w k n len) (by kernel_rfl) (fun i o ho => (okR_at okR5 ho).1) (fun i j o oj d ho hj q1 q2 => (okR_at okR5 ho).2.2 j oj d hj q1 q2) (fun i o d ho q => (okR_at okR5 ho).2.1 d q)
    (step5 _ gd od rs.length cR (cR - 2) (cR - 10) k n len w.heap.size oN oL _ _ rfl (fun i hi listed W h => h.mv (of_decide_eq_true hi)) (fun listed W h _ _ _ => (RN.out W h.bl).mono ?_) (fun listed W h _ _ _ => (RL.out W h.bl).mono ?_) (fun listed W h _ _ _ => ⟨W, ?_, h.mv (by decide)⟩) (fun listed W h _ _ _ => ⟨W, ?_, h.mv (by decide)⟩) (fun listed W h _ _ _ => ⟨W, ?_, h.mv (by decide)⟩) (fun listed W h _ _ _ => ⟨W, ?_, h.mv (by decide)⟩) (fun listed W h _ hu _ => ?_) (fun listed W h hz hu hd => ?_) i1 hw) (R5.start w k n len) (fun wE hE => ?_)
  · rintro e w' ⟨rfl, rfl⟩
    exact ⟨rfl, h.mv (by decide)⟩
  · rintro e w' ⟨rfl, rfl⟩
    exact ⟨rfl, h.mv (by decide)⟩
  · have : W.cell? ⟨gd, od + 1, none⟩ = some (.int .u8 (k : Int)) := (World.cell?_of_block (w := w) (a := ⟨gd, od + 1, none⟩) (h.bl.block gd (by omega))).trans ck
    simp [go_sem, this]
  · rw [run_sliceAt_slice (h := uB)]; exact sN' W
  · rw [run_sliceAt_slice (h := uB)]; exact sL' W
  · exact run_build W 142 _ _ (by kernel_rfl)
  · have hz := h.no hu
    refine ⟨W.alloc (.cells zRc 142), ?_, ?_⟩
    · rw [← hz]; simp [go_sem, zRc]
    · refine ⟨h.bl.alloc (by omega) _, fun q => ?_, fun _ _ => by rw [← hz]; exact heap_alloc_new _ _, fun q => ?_⟩
      · rw [set_eq] at q; cases q
      · rw [set_nf (by decide)] at q
        have := h.fin q
        rw [← hz] at this
        simp at this
  · have ha : listed.getD 11 true = true := by
      have := hd 11 (by kernel_rfl)
      rw [agetD _ _ _ (by rw [hz]; decide)] at this ⊢
      exact this
    have row := h.yes ha hu
    refine ⟨W.setRow w.heap.size (rcA k n len (.slice none 0 0)), st_Rc W w.heap.size zRc _ rfl rfl (by simp [Value.oneCell']) row, ?_⟩
    refine ⟨⟨h.bl.os, h.bl.tape, h.bl.output, by rw [size_setRow]; exact h.bl.size, fun j hj => (setRow_other W _ j _ (by omega)).trans (h.bl.block j hj)⟩, fun q => ?_, fun _ q => ?_, fun _ => setRow_heap W _ _ _ _ _ row⟩
    · rw [set_nf (by decide), ha] at q; cases q
    · rw [set_eq] at q; cases q
  · rw [put5]
    refine HK.out _ _ ?_
    obtain ⟨hg, hr, hb, hR, hag, hT, hU⟩ := HF.out
    have row := hE.fin (by rw [show reg5.size = 13 from by kernel_rfl]; decide)
    have hbl := hE.bl
    exact rec6 W0 W wE (k := k) (n := n) (len := len) (r0 := r0) (bx := w.heap.size) ((hbl.block g gl).trans hg) row ((hbl.block r0 rl).trans hr) (by omega) n2 (by omega) (hb.below hbl) hW hb.size hlim (by omega) hR h18 h0 hs0 (fun j hj => (hbl.block j (by omega)).trans (hag j hj)) (hT.keep hbl.size (hbl.block _ hT.sz)) hT.sz us hus (hU.below hbl) X hX.out
end Go.Proofs.YtfimaflglnemdaaDoor
