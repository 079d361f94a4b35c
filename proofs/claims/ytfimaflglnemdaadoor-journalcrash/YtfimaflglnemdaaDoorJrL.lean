/- JournalReplays: a record, by tails: the front's sum, and the rules. -/
import Derived.Test.YtfimaflglnemdaaDoorJqY
import Derived.Test.YtfimaflglnemdaaDoorJr6
namespace Go.Proofs.YtfimaflglnemdaaDoor
open Go.RowKit
theorem below_drew {B : Nat} {a b : World} (h : Below B a b) (k : Nat) : Below B a (b.drewN k) := ⟨h.os, h.tape, h.output, h.size, h.block⟩
open JM in
set_option maxRecDepth 100000 in
set_option maxHeartbeats 3200000 in
theorem rec6 (W0 W w : World) {g r0 bx pos k n len cR : Nat} {rv dv t0 t1 t2 t3 t4 t5 : Value} {oR : Option Addr} {rs : List Nat} {v2 v3 v7 v8 v9 v10 v11 v12 v13 v14 v15 v16 v17 v18 v19 v20 v21 v22 v23 v24 v25 v26 v27 v28 v29 v30 v31 v32 v33 v34 v35 v36 v37 v38 v39 v40 v41 v42 v43 v44 v45 v46 v47 v48 v49 v50 v51 v52 v53 v54 v55 v56 v57 v58 v59 v60 v61 v62 v63 v64 v65 v66 v67 v68 v69 v70 v71 v72 v73 v74 v75 v76 v77 v78 v79 v80 v81 v82 v83 v84 v85 v86 v87 v88 v89 v90 v91 v92 v93 v94 v95 v96 v97 v98 v99 v100 : Value}
    (hg : w.heap[g]? = some (.cells (rdA dv pos pos t0 t1 t2 t3 t4 t5) 130 (0, 0))) (hx : w.heap[bx]? = some (.cells (rcA k n len (.slice none 0 0)) 142 (0, 0))) (hr : w.heap[r0]? = some (.cells zRc 142 (0, 0)))
    (n1 : g ≠ bx) (n2 : g ≠ r0) (n3 : r0 ≠ bx) (hb : But g W w) (hW : W.heap.size ≤ r0) (hWx : W.heap.size ≤ bx) (hlim : pos + 22 + rs.length ≤ 10000000000000) (hll : len ≤ 10000000000000)
    (hR : Bl W0 (.slice oR rs.length cR) rs) (h18 : 18 ≤ rs.length) (h0 : W0.heap.size ≤ W.heap.size) (h0b : W0.heap.size ≤ bx) (hag : ∀ j, j < W0.heap.size → w.heap[j]? = W0.heap[j]?) (hT : Tc w) (hTx : 0 < bx)
    (us : List Ru) (hus : us.length ≤ 1000) (hU : Rul w rv us)
    (X : Out Rec) (hX : X = if ¬ (crcN (rs.take 14) = le ((rs.drop 14).take 4)) ∨ hasR us k n len = false then .bad else (if rs.length < 22 + len then Out.torn else if ¬ (crcN ((rs.drop 18).take len) = le ((rs.drop (18 + len)).take 4)) then .bad else .got ⟨k, n, (rs.drop 18).take len⟩)) :
    Code.wp Tryd.prog (tlG Tryd.f77 6) (bodyPost Tryd.prog Tryd.f77 (RecP g W0 W dv t0 t1 t2 t3 t4 t5 pos X)) ⟨#[.pointer (some ⟨g, 0, none⟩), rv, v2, v3, .pointer (some ⟨r0, 0, none⟩), .slice oR rs.length cR, .pointer (some ⟨bx, 0, none⟩), v7, v8, v9, v10, v11, v12, v13, v14, v15, v16, v17, v18, v19, v20, v21, v22, v23, v24, v25, v26, v27, v28, v29, v30, v31, v32, v33, v34, v35, v36, v37, v38, v39, v40, v41, v42, v43, v44, v45, v46, v47, v48, v49, v50, v51, v52, v53, v54, v55, v56, v57, v58, v59, v60, v61, v62, v63, v64, v65, v66, v67, v68, v69, v70, v71, v72, v73, v74, v75, v76, v77, v78, v79, v80, v81, v82, v83, v84, v85, v86, v87, v88, v89, v90, v91, v92, v93, v94, v95, v96, v97, v98, v99, v100], []⟩ w := by
  have c0 : w.cell? ⟨g, 2, none⟩ = some (.int .i64 (pos : Int)) := (cell_of_row _ _ _ _ _ _ hg).trans rfl
  have gl : g < w.heap.size := (Array.getElem?_eq_some_iff.1 hg).1
  have xl : bx < w.heap.size := (Array.getElem?_eq_some_iff.1 hx).1
  obtain ⟨oF, sF, bF⟩ := cut_h hR 14 (by omega)
  obtain ⟨oQ, sQ, bQ⟩ := cut_l hR 14 (by omega)
  have hs0 : W0.heap.size ≤ w.heap.size := Nat.le_trans h0 hb.size
  have CA := mkHid (fun (W' : World) (h : Below w.heap.size w W') => show Calls Tryd.prog 82 #[.slice oF 14 cR, .slice oQ (rs.length - 14) (cR - 14)] W' (fun e w'' => e = .returned (.bool (decide (crcN (rs.take 14) = le ((rs.drop 14).take 4)))) ∧ Below w.heap.size w w'') from by
    have ag : ∀ j, j < W0.heap.size → W'.heap[j]? = W0.heap[j]? := fun j hj => (h.block j (by omega)).trans (hag j hj)
    refine (sum_any _ _ (rs.take 14) (rs.drop 14) W' (bF.keep (Nat.le_trans hs0 h.size) ag) (bQ.keep (Nat.le_trans hs0 h.size) ag) (by rw [List.length_drop]; omega) (by rw [List.length_take]; omega) (hT.keep h.size (h.block _ hT.sz))).mono ?_
    rintro e w'' ⟨rfl, k, rfl⟩
    exact ⟨rfl, below_drew h k⟩)
  have CC := mkHid (fun (W' : World) (h : Below w.heap.size w W') => show Calls Tryd.prog 83 #[rv, obV k n len (.slice none 0 0)] W' (fun e w'' => e = .returned (.bool (hasR us k n len)) ∧ Below w.heap.size w w'') from by
    refine (has_any us hus k n len (.slice none 0 0) rv W' (hU.below h)).mono ?_
    rintro e w'' ⟨rfl, h2, -⟩
    exact ⟨rfl, h.trans (h2.mono h.size)⟩)
  have CB := mkHid (fun (t : Bool) (W' : World) (h : Below w.heap.size w W') => show Calls Tryd.prog 79 #[.pointer (some ⟨g, 0, none⟩), .bool t] W' (fun e w'' => e = brE t true pos ∧ Below w.heap.size w w'') from by
    refine (spoilt_any t g pos W' ((World.cell?_of_block (w := w) (a := ⟨g, 2, none⟩) (h.block g gl)).trans c0)).mono ?_
    rintro e w'' ⟨rfl, rfl⟩
    exact ⟨rfl, h⟩)
  have LX := mkHid (fun (W' : World) (h : Below w.heap.size w W') => ld_Rc W' bx _ rfl ((h.block bx xl).trans hx))
  have HA := mkHid (And.intro hg hb)
  have hd0 : Below w.heap.size w w.drew := ⟨rfl, rfl, rfl, Nat.le_refl _, fun _ _ => rfl⟩
  replace hX := mkHid hX
  by_cases hs : crcN (rs.take 14) = le ((rs.drop 14).take 4)
  · rw [decide_eq_true hs] at CA
    cases hh : hasR us k n len with
    | false =>
      rw [hh] at CC
      rw [hX.out, if_pos (.inr hh)]
      clear hX
      conv => arg 2; whnf
      go_wp2_with fail
      refine wp_region_vals (ops := reg6) (V := V6b g bx rs.length cR cR (rs.length - 14) (cR - 14) oR oF oQ rv (rcA k n len (.slice none 0 0))) (S := fun listed w' => listed.getD 14 true = false ∧ Below w.heap.size w w') (by kernel_rfl) (fun i o ho => (okR_at okR6 ho).1) (fun i j o oj d ho hj q1 q2 => (okR_at okR6 ho).2.2 j oj d hj q1 q2) (fun i o d ho q => (okR_at okR6 ho).2.1 d q)
        (step6b (c := [{ v := brV true pos, recovered := false }]) _ g bx rs.length cR cR (rs.length - 14) (cR - 14) oR oF oQ rv (rcA k n len (.slice none 0 0)) _ _ rfl rfl rfl rfl (fun i hi listed W h => ⟨?_, h.2⟩) (fun listed W h _ _ _ => ?_) (fun listed W h _ _ _ => ?_) (fun listed W h _ _ _ => ⟨W, LX.out W h.2, ?_, h.2⟩) (fun listed W h => ?_) (fun listed W h _ _ _ => ⟨W, ?_, ?_, h.2⟩) (fun listed W h _ _ _ => ⟨W, ?_, ?_, h.2⟩)) ⟨rfl, hd0⟩ (fun wE hE => ?_)
      · exact set_ne h.1 (by have := of_decide_eq_true hi; omega)
      · refine (CA.out W h.2).mono ?_
        rintro e w' ⟨rfl, hS⟩
        exact ⟨rfl, set_ne h.1 (by decide), hS⟩
      · refine (CC.out W h.2).mono ?_
        rintro e w' ⟨rfl, hS⟩
        exact ⟨rfl, set_ne h.1 (by decide), hS⟩
      · exact set_ne h.1 (by decide)
      · refine (CB.out true W h.2).mono ?_
        rintro e w' ⟨rfl, hS⟩
        obtain ⟨xg, xb⟩ := HA.out
        exact ⟨rfl, fun a ha => ⟨ha, xb.below hS, rfl, (hS.block g (Array.getElem?_eq_some_iff.1 xg).1).trans xg⟩⟩
      · rw [run_sliceAt_slice (h := uB)]; exact sF W
      · exact set_ne h.1 (by decide)
      · rw [run_sliceAt_slice (h := uB)]; exact sQ W
      · exact set_ne h.1 (by decide)
      · exact absurd hE.1 (by rw [show reg6.size = 15 from by kernel_rfl]; decide)
    | true =>
      rw [hh] at CC
      rw [if_neg (by rintro (h | h) <;> simp_all)] at hX
      conv => arg 2; whnf
      go_wp2_with fail
      rename_i K hK
      have HK := mkHid (show ∀ a w', Code.wp Tryd.prog (tlG Tryd.f77 7) (bodyPost Tryd.prog Tryd.f77 (RecP g W0 W dv t0 t1 t2 t3 t4 t5 pos X)) a w' → K a w' from hK)
      clear hK
      refine wp_region_vals (ops := reg6) (V := V6c g bx rs.length cR cR (rs.length - 14) (cR - 14) oR oF oQ rv (rcA k n len (.slice none 0 0))) (S := fun listed w' => Below w.heap.size w w') (by kernel_rfl) (fun i o ho => (okR_at okR6 ho).1) (fun i j o oj d ho hj q1 q2 => (okR_at okR6 ho).2.2 j oj d hj q1 q2) (fun i o d ho q => (okR_at okR6 ho).2.1 d q)
        (step6c _ g bx rs.length cR cR (rs.length - 14) (cR - 14) oR oF oQ rv (rcA k n len (.slice none 0 0)) _ _ rfl rfl rfl rfl (fun i hi listed W h => h) (fun listed W h _ _ _ => CA.out W h) (fun listed W h _ _ _ => CC.out W h) (fun listed W h _ _ _ => ⟨W, LX.out W h, h⟩) (fun listed W h _ _ _ => CB.out false W h) (fun listed W h _ _ _ => ⟨W, ?_, h⟩) (fun listed W h _ _ _ => ⟨W, ?_, h⟩)) hd0 (fun wE hE => ?_)
      · rw [run_sliceAt_slice (h := uB)]; exact sF W
      · rw [run_sliceAt_slice (h := uB)]; exact sQ W
      · rw [put6]
        refine HK.out _ _ ?_
        exact rec7 W0 W wE (k := k) (n := n) (len := len) (r0 := r0) (bx := bx) ((hE.block g gl).trans hg) ((hE.block bx xl).trans hx) ((hE.block r0 (Array.getElem?_eq_some_iff.1 hr).1).trans hr) n1 n2 n3 (hb.below hE) hW hWx hlim hll hR h0 h0b (fun j hj => (hE.block j (by omega)).trans (hag j hj)) (hT.keep hE.size (hE.block _ hT.sz)) hTx X hX.out
  · rw [decide_eq_false hs] at CA
    rw [hX.out, if_pos (.inl hs)]
    clear hX
    conv => arg 2; whnf
    go_wp2_with fail
    refine wp_region_vals (ops := reg6) (V := V6a g bx rs.length cR cR (rs.length - 14) (cR - 14) oR oF oQ rv (rcA k n len (.slice none 0 0))) (S := fun listed w' => listed.getD 14 true = false ∧ Below w.heap.size w w') (by kernel_rfl) (fun i o ho => (okR_at okR6 ho).1) (fun i j o oj d ho hj q1 q2 => (okR_at okR6 ho).2.2 j oj d hj q1 q2) (fun i o d ho q => (okR_at okR6 ho).2.1 d q)
      (step6a (c := [{ v := brV true pos, recovered := false }]) _ g bx rs.length cR cR (rs.length - 14) (cR - 14) oR oF oQ rv (rcA k n len (.slice none 0 0)) _ _ rfl rfl rfl rfl (fun i hi listed W h => ⟨?_, h.2⟩) (fun listed W h _ _ _ => ?_) (fun listed W h => ?_) (fun listed W h _ _ _ => ⟨W, ?_, ?_, h.2⟩) (fun listed W h _ _ _ => ⟨W, ?_, ?_, h.2⟩)) ⟨rfl, hd0⟩ (fun wE hE => ?_)
    · exact set_ne h.1 (by have := of_decide_eq_true hi; omega)
    · refine (CA.out W h.2).mono ?_
      rintro e w' ⟨rfl, hS⟩
      exact ⟨rfl, set_ne h.1 (by decide), hS⟩
    · refine (CB.out true W h.2).mono ?_
      rintro e w' ⟨rfl, hS⟩
      obtain ⟨xg, xb⟩ := HA.out
      exact ⟨rfl, fun a ha => ⟨ha, xb.below hS, rfl, (hS.block g (Array.getElem?_eq_some_iff.1 xg).1).trans xg⟩⟩
    · rw [run_sliceAt_slice (h := uB)]; exact sF W
    · exact set_ne h.1 (by decide)
    · rw [run_sliceAt_slice (h := uB)]; exact sQ W
    · exact set_ne h.1 (by decide)
    · exact absurd hE.1 (by rw [show reg6.size = 15 from by kernel_rfl]; decide)
end Go.Proofs.YtfimaflglnemdaaDoor
