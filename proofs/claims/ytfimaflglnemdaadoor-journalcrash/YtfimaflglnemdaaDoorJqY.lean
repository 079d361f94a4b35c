/- Several texts in one: JrI, JrK. -/
import Derived.Test.YtfimaflglnemdaaDoorJrH
import Derived.Test.YtfimaflglnemdaaDoorJr9
/- JournalReplays: a record, by tails: the body's sum. -/
namespace Go.Proofs.YtfimaflglnemdaaDoor
open Go.RowKit
theorem set_ne {l : Array Bool} {i j : Nat} (h : l.getD j true = false) (hn : i ≠ j) : (l.setIfInBounds i true).getD j true = false := by
  simp only [Array.getD_eq_getD_getElem?, Array.getElem?_setIfInBounds] at h ⊢
  rw [if_neg hn]
  exact h
theorem mkHid {p : Prop} (h : p) : Hid p := h
/-- How a record ends, its front being right. -/
def RecE (g : Nat) (W w : World) (ok : Bool) (v dv t0 t1 t2 t3 t4 t5 : Value) (pos nxt r0 : Nat) (e : Ending) (w' : World) : Prop :=
  (ok = true ∧ e = .returned v ∧ But g W w' ∧ (∀ j, j < w.heap.size → j ≠ g → j ≠ r0 → w'.heap[j]? = w.heap[j]?) ∧ w'.heap[g]? = some (.cells (rdA dv nxt pos t0 t1 t2 t3 t4 t5) 130 (0, 0))) ∨
  (ok = false ∧ e = .panicked [{ v := brV true pos, recovered := false }] ∧ But g W w' ∧ w'.heap[g]? = some (.cells (rdA dv pos pos t0 t1 t2 t3 t4 t5) 130 (0, 0)))
open JM in
attribute [local go_sem ↓] toSlB in
set_option maxRecDepth 100000 in
set_option maxHeartbeats 3200000 in
theorem rec9 (W w : World) {g r0 bx pos k n len cR cB : Nat} {rv dv t0 t1 t2 t3 t4 t5 : Value} {oR oB : Option Addr} {rs bd : List Nat} {v2 v3 v7 v8 v9 v10 v11 v12 v13 v14 v15 v16 v17 v18 v19 v20 v21 v22 v23 v24 v25 v26 v27 v28 v29 v30 v31 v32 v33 v34 v35 v36 v37 v38 v39 v40 v41 v42 v43 v44 v45 v46 v47 v48 v49 v50 v51 v52 v53 v54 v55 v56 v57 v58 v59 v60 v61 v62 v63 v64 v65 v66 v67 v68 v69 v70 v71 v72 v73 v74 v75 v76 v77 v78 v79 v80 v81 v82 v83 v84 v85 v86 v87 v88 v89 v90 v91 v92 v93 v94 v95 v96 v97 v98 v99 v100 : Value}
    (hg : w.heap[g]? = some (.cells (rdA dv pos pos t0 t1 t2 t3 t4 t5) 130 (0, 0))) (hx : w.heap[bx]? = some (.cells (rcA k n len (.slice oB len cB)) 142 (0, 0))) (hr : w.heap[r0]? = some (.cells zRc 142 (0, 0)))
    (n1 : g ≠ bx) (n2 : g ≠ r0) (hb : But g W w) (hW : W.heap.size ≤ r0) (hlim : pos + 22 + len ≤ 100000000000000)
    (hR : Bl w (.slice oR rs.length cR) rs) (hB : Bl w (.slice oB len cB) bd) (hl : bd.length = len) (h22 : 22 + len ≤ rs.length) (hT : Tc w) (Qp : Ending → World → Prop) (hq : ∀ e w', RecE g W w (decide (crcN bd = le ((rs.drop (18 + len)).take 4))) (.agg (rcA k n len (.slice oB len cB))) dv t0 t1 t2 t3 t4 t5 pos (pos + 22 + len) r0 e w' → Qp e w') :
    Code.wp Tryd.prog (tlG Tryd.f77 9) (bodyPost Tryd.prog Tryd.f77 Qp) ⟨#[.pointer (some ⟨g, 0, none⟩), rv, v2, v3, .pointer (some ⟨r0, 0, none⟩), .slice oR rs.length cR, .pointer (some ⟨bx, 0, none⟩), v7, v8, v9, v10, v11, v12, v13, v14, v15, v16, v17, v18, v19, v20, v21, v22, v23, v24, v25, v26, v27, v28, v29, v30, v31, v32, v33, v34, v35, v36, v37, v38, v39, v40, v41, v42, v43, v44, v45, v46, v47, v48, v49, v50, v51, v52, v53, v54, v55, v56, v57, v58, v59, v60, v61, v62, v63, v64, v65, v66, v67, v68, v69, v70, v71, v72, v73, v74, v75, v76, v77, v78, v79, v80, v81, v82, v83, v84, v85, v86, v87, v88, v89, v90, v91, v92, v93, v94, v95, v96, v97, v98, v99, v100], []⟩ w := by
  have c0 : w.cell? ⟨g, 2, none⟩ = some (.int .i64 (pos : Int)) := (cell_of_row _ _ _ _ _ _ hg).trans rfl
  have c1 : w.cell? ⟨bx, 2, none⟩ = some (.int .i64 (len : Int)) := (cell_of_row _ _ _ _ _ _ hx).trans rfl
  have c2 : w.cell? ⟨bx, 3, none⟩ = some (.slice oB len cB) := (cell_of_row _ _ _ _ _ _ hx).trans rfl
  obtain ⟨oQ, sQ, bQ⟩ := cut_l hR (18 + len) (by omega)
  have sQ' : ∀ W' : World, (slB (.slice oR rs.length cR) (some (.int .i64 (18 + (len : Int)))) none none).run Tryd.prog W' = .ok (.slice oQ (rs.length - (18 + len)) (cR - (18 + len))) W' := fun W' => by
    rw [show (18 : Int) + (len : Int) = ((18 + len : Nat) : Int) by omega]; exact sQ W'
  have hdl : (rs.drop (18 + len)).length = rs.length - (18 + len) := List.length_drop
  have C1 : Hid (∀ m, Calls Tryd.prog 82 #[.slice oB len cB, .slice oQ (rs.length - (18 + len)) (cR - (18 + len))] (w.drewN m) fun e w' => e = .returned (.bool (decide (crcN bd = le ((rs.drop (18 + len)).take 4)))) ∧ ∃ k, w' = (w.drewN m).drewN k) := fun m =>
    sum_any _ _ bd (rs.drop (18 + len)) _ (hB.drew m) (bQ.drew m) (by omega) (by rw [hl]; omega) ⟨hT.sz, hT.t⟩
  replace hq := mkHid hq
  generalize hβ : decide (crcN bd = le ((rs.drop (18 + len)).take 4)) = β at *
  have CA : Hid (∀ w', (w'.cell? ⟨g, 2, none⟩ = some (.int .i64 (pos : Int)) ∧ w'.cell? ⟨bx, 2, none⟩ = some (.int .i64 (len : Int)) ∧ w'.cell? ⟨bx, 3, none⟩ = some (.slice oB len cB) ∧ ∃ m, w' = w.drewN m) → Calls Tryd.prog 82 #[.slice oB len cB, .slice oQ (rs.length - (18 + len)) (cR - (18 + len))] w' fun e w'' => e = .returned (.bool β) ∧ (w''.cell? ⟨g, 2, none⟩ = some (.int .i64 (pos : Int)) ∧ w''.cell? ⟨bx, 2, none⟩ = some (.int .i64 (len : Int)) ∧ w''.cell? ⟨bx, 3, none⟩ = some (.slice oB len cB) ∧ ∃ m, w'' = w.drewN m)) := by
    rintro w' ⟨-, -, -, m, rfl⟩
    refine (C1.out m).mono ?_
    rintro e w'' ⟨rfl, k, rfl⟩
    exact ⟨rfl, c0, c1, c2, m + k, World.drewN_drewN _ _ _⟩
  have CB : Hid (∀ t w', (w'.cell? ⟨g, 2, none⟩ = some (.int .i64 (pos : Int)) ∧ w'.cell? ⟨bx, 2, none⟩ = some (.int .i64 (len : Int)) ∧ w'.cell? ⟨bx, 3, none⟩ = some (.slice oB len cB) ∧ ∃ m, w' = w.drewN m) → Calls Tryd.prog 79 #[.pointer (some ⟨g, 0, none⟩), .bool t] w' fun e w'' => e = brE t true pos ∧ (w''.cell? ⟨g, 2, none⟩ = some (.int .i64 (pos : Int)) ∧ w''.cell? ⟨bx, 2, none⟩ = some (.int .i64 (len : Int)) ∧ w''.cell? ⟨bx, 3, none⟩ = some (.slice oB len cB) ∧ ∃ m, w'' = w.drewN m)) := by
    rintro t w' h
    refine (spoilt_any t g pos w' h.1).mono ?_
    rintro e w'' ⟨rfl, rfl⟩
    exact ⟨rfl, h⟩
  clear sQ bQ hdl C1 hβ
  have hw : IntKind.i64.wrap (18 + (len : Int)) = 18 + (len : Int) := by rw [IntKind.wrap_i64]; omega
  have HA : Hid (w.heap[g]? = some (.cells (rdA dv pos pos t0 t1 t2 t3 t4 t5) 130 (0, 0)) ∧ w.heap[bx]? = some (.cells (rcA k n len (.slice oB len cB)) 142 (0, 0)) ∧ w.heap[r0]? = some (.cells zRc 142 (0, 0)) ∧ But g W w) := ⟨hg, hx, hr, hb⟩
  clear hg hx hr hb hR hB hT
  cases β with
  | true =>
    conv => arg 2; whnf
    go_wp2_with fail
    rename_i K hK
    have HK : Hid (∀ a w', Code.wp Tryd.prog (tlG Tryd.f77 10) (bodyPost Tryd.prog Tryd.f77 Qp) a w' → K a w') := hK
    clear hK
    go_region_held (fun w' => (w'.cell? ⟨g, 2, none⟩ = some (.int .i64 (pos : Int)) ∧ w'.cell? ⟨bx, 2, none⟩ = some (.int .i64 (len : Int)) ∧ w'.cell? ⟨bx, 3, none⟩ = some (.slice oB len cB) ∧ ∃ m, w' = w.drewN m)) (first | assumption | (refine ⟨c0, c1, c2, 1, rfl⟩))
      (first
        | (go_at_call 82; refine Calls.mono (CA.out _ (by assumption)) ?_; rintro e w1 ⟨rfl, hS⟩)
        | (go_at_call 79; refine Calls.mono (CB.out _ _ (by assumption)) ?_; rintro e w1 ⟨rfl, hS⟩; simp only [brE, if_false, Bool.false_eq_true]))
    obtain ⟨-, -, -, m, rfl⟩ := hS
    obtain ⟨xg, xx, xr, xb⟩ := HA.out
    refine HK.out _ _ ?_
    refine rec10 W (w.drewN m) (k := k) (n := n) (bx := bx) (r0 := r0) (oB := oB) (cB := cB) (oR := oR) (rs := rs) (cR := cR) (rv := rv) xg xx xr n1 n2 (xb.below ⟨rfl, rfl, rfl, Nat.le_refl _, fun _ _ => rfl⟩) hW (by omega) _ ?_
    rintro e w' ⟨rfl, h1, h2, h3⟩
    exact hq.out _ _ (.inl ⟨rfl, rfl, h1, h2, h3⟩)
  | false =>
    conv => arg 2; whnf
    go_wp2_with fail
    refine wp_region_vals (ops := reg9) (V := V9 g bx len cB rs.length cR (rs.length - (18 + len)) (cR - (18 + len)) oB oR oQ) (S := fun listed w' => listed.getD 10 true = false ∧ (w'.cell? ⟨g, 2, none⟩ = some (.int .i64 (pos : Int)) ∧ w'.cell? ⟨bx, 2, none⟩ = some (.int .i64 (len : Int)) ∧ w'.cell? ⟨bx, 3, none⟩ = some (.slice oB len cB) ∧ ∃ m, w' = w.drewN m)) (by kernel_rfl) (fun i o ho => (okR_at okR9 ho).1) (fun i j o oj d ho hj q1 q2 => (okR_at okR9 ho).2.2 j oj d hj q1 q2) (fun i o d ho q => (okR_at okR9 ho).2.1 d q)
      (step9 (c := [{ v := brV true pos, recovered := false }]) _ g bx len cB rs.length cR (rs.length - (18 + len)) (cR - (18 + len)) oB oR oQ _ _ rfl rfl rfl (fun i hi listed W h => ⟨?_, h.2⟩) (fun listed W h _ _ _ => ?_) (fun listed W h => ?_) (fun listed W h _ _ _ => ⟨W, ?_, ?_, h.2⟩) (fun listed W h _ _ _ => ⟨W, ?_, ?_, h.2⟩) (fun listed W h _ _ _ => ⟨W, ?_, ?_, h.2⟩) hw) ⟨rfl, c0, c1, c2, 1, rfl⟩ (fun wE hE => ?_)
    · exact set_ne h.1 (by have := of_decide_eq_true hi; omega)
    · refine (CA.out W h.2).mono ?_
      rintro e w' ⟨rfl, hS⟩
      exact ⟨rfl, set_ne h.1 (by decide), hS⟩
    · refine (CB.out true W h.2).mono ?_
      rintro e w' ⟨rfl, hS⟩
      obtain ⟨-, -, -, m, rfl⟩ := hS
      obtain ⟨xg, xx, xr, xb⟩ := HA.out
      exact ⟨rfl, fun a ha => ⟨ha, hq.out _ _ (.inr ⟨rfl, rfl, xb.below ⟨rfl, rfl, rfl, Nat.le_refl _, fun _ _ => rfl⟩, xg⟩)⟩⟩
    · simp [go_sem, h.2.2.2.1]
    · exact set_ne h.1 (by decide)
    · simp [go_sem, h.2.2.1]
    · exact set_ne h.1 (by decide)
    · rw [run_sliceAt_slice (h := uB)]; exact sQ' W
    · exact set_ne h.1 (by decide)
    · exact absurd hE.1 (by rw [show reg9.size = 11 from by kernel_rfl]; decide)
end Go.Proofs.YtfimaflglnemdaaDoor

/- JournalReplays: a record, by tails: is the body there? -/
namespace Go.Proofs.YtfimaflglnemdaaDoor
open Go.RowKit
theorem Bl.keep {W W' : World} {v : Value} {l : List Nat} (h : Bl W v l) (hs : W.heap.size ≤ W'.heap.size) (hb : ∀ j, j < W.heap.size → W'.heap[j]? = W.heap[j]?) : Bl W' v l := by
  obtain ⟨oa, cap, h1, h2, h3, h4, h5⟩ := h
  refine ⟨oa, cap, h1, h2, h3, h4, fun j u hu => ?_⟩
  obtain ⟨g, o, e1, e2, e3⟩ := h5 j u hu
  exact ⟨g, o, e1, Nat.lt_of_lt_of_le e2 hs, (World.cell?_of_block (w := W) (a := ⟨g, o + j, none⟩) (hb g e2)).trans e3⟩
open JM in
/-- How a record ends. -/
def RecP (g : Nat) (W0 W : World) (dv t0 t1 t2 t3 t4 t5 : Value) (pos : Nat) (X : Out Rec) (e : Ending) (w' : World) : Prop :=
  But g W w' ∧ match X with
  | .bad => e = .panicked [{ v := brV true pos, recovered := false }] ∧ w'.heap[g]? = some (.cells (rdA dv pos pos t0 t1 t2 t3 t4 t5) 130 (0, 0))
  | .torn => e = .panicked [{ v := brV false pos, recovered := false }] ∧ w'.heap[g]? = some (.cells (rdA dv pos pos t0 t1 t2 t3 t4 t5) 130 (0, 0))
  | .got r => (∃ oB cB, e = .returned (.agg (rcA r.kind r.number r.body.length (.slice oB r.body.length cB))) ∧ Bl W0 (.slice oB r.body.length cB) r.body) ∧ w'.heap[g]? = some (.cells (rdA dv (pos + 22 + r.body.length) pos t0 t1 t2 t3 t4 t5) 130 (0, 0))
open JM in
attribute [local go_sem ↓] toSlB in
set_option maxRecDepth 100000 in
set_option maxHeartbeats 3200000 in
theorem rec7 (W0 W w : World) {g r0 bx pos k n len cR : Nat} {rv dv t0 t1 t2 t3 t4 t5 : Value} {oR : Option Addr} {rs : List Nat} {v2 v3 v7 v8 v9 v10 v11 v12 v13 v14 v15 v16 v17 v18 v19 v20 v21 v22 v23 v24 v25 v26 v27 v28 v29 v30 v31 v32 v33 v34 v35 v36 v37 v38 v39 v40 v41 v42 v43 v44 v45 v46 v47 v48 v49 v50 v51 v52 v53 v54 v55 v56 v57 v58 v59 v60 v61 v62 v63 v64 v65 v66 v67 v68 v69 v70 v71 v72 v73 v74 v75 v76 v77 v78 v79 v80 v81 v82 v83 v84 v85 v86 v87 v88 v89 v90 v91 v92 v93 v94 v95 v96 v97 v98 v99 v100 : Value}
    (hg : w.heap[g]? = some (.cells (rdA dv pos pos t0 t1 t2 t3 t4 t5) 130 (0, 0))) (hx : w.heap[bx]? = some (.cells (rcA k n len (.slice none 0 0)) 142 (0, 0))) (hr : w.heap[r0]? = some (.cells zRc 142 (0, 0)))
    (n1 : g ≠ bx) (n2 : g ≠ r0) (n3 : r0 ≠ bx) (hb : But g W w) (hW : W.heap.size ≤ r0) (hWx : W.heap.size ≤ bx) (hlim : pos + 22 + rs.length ≤ 10000000000000) (hll : len ≤ 10000000000000)
    (hR : Bl W0 (.slice oR rs.length cR) rs) (h0 : W0.heap.size ≤ W.heap.size) (h0b : W0.heap.size ≤ bx) (hag : ∀ j, j < W0.heap.size → w.heap[j]? = W0.heap[j]?) (hT : Tc w) (hTx : 0 < bx)
    (X : Out Rec) (hX : X = if rs.length < 22 + len then .torn else if ¬ (crcN ((rs.drop 18).take len) = le ((rs.drop (18 + len)).take 4)) then .bad else .got ⟨k, n, (rs.drop 18).take len⟩) :
    Code.wp Tryd.prog (tlG Tryd.f77 7) (bodyPost Tryd.prog Tryd.f77 (RecP g W0 W dv t0 t1 t2 t3 t4 t5 pos X)) ⟨#[.pointer (some ⟨g, 0, none⟩), rv, v2, v3, .pointer (some ⟨r0, 0, none⟩), .slice oR rs.length cR, .pointer (some ⟨bx, 0, none⟩), v7, v8, v9, v10, v11, v12, v13, v14, v15, v16, v17, v18, v19, v20, v21, v22, v23, v24, v25, v26, v27, v28, v29, v30, v31, v32, v33, v34, v35, v36, v37, v38, v39, v40, v41, v42, v43, v44, v45, v46, v47, v48, v49, v50, v51, v52, v53, v54, v55, v56, v57, v58, v59, v60, v61, v62, v63, v64, v65, v66, v67, v68, v69, v70, v71, v72, v73, v74, v75, v76, v77, v78, v79, v80, v81, v82, v83, v84, v85, v86, v87, v88, v89, v90, v91, v92, v93, v94, v95, v96, v97, v98, v99, v100], []⟩ w := by
  have c0 : w.cell? ⟨g, 2, none⟩ = some (.int .i64 (pos : Int)) := (cell_of_row _ _ _ _ _ _ hg).trans rfl
  have c1 : w.cell? ⟨bx, 2, none⟩ = some (.int .i64 (len : Int)) := (cell_of_row _ _ _ _ _ _ hx).trans rfl
  have c3 : w.cell? ⟨bx, 3, none⟩ = some (.slice none 0 0) := (cell_of_row _ _ _ _ _ _ hx).trans rfl
  have f3 : w.frozen? ⟨bx, 3, none⟩ = false := frozen_of_row _ _ _ _ _ hx
  by_cases hs : rs.length < 22 + len
  · have hi : (rs.length : Int) < 22 + (len : Int) := by omega
    rw [if_pos hs] at hX
    subst hX
    have C := torn_any true g pos w c0
    have HA : Hid (But g W w ∧ w.heap[g]? = some (.cells (rdA dv pos pos t0 t1 t2 t3 t4 t5) 130 (0, 0))) := ⟨hb, hg⟩
    clear hg hx hr hb hR hag hT
    conv => arg 2; whnf
    go_wp2_with fail
    refine C.mono ?_
    rintro e w' ⟨rfl, rfl⟩
    exact ⟨rfl, HA.out.1, rfl, HA.out.2⟩
  · have hi : ¬ (rs.length : Int) < 22 + (len : Int) := by omega
    rw [if_neg hs] at hX
    replace hX := mkHid hX
    have C := torn_any false g pos w c0
    obtain ⟨oB, sB, bB⟩ := cut_lh hR 18 (18 + len) (by omega) (by omega)
    have hsub : 18 + len - 18 = len := by omega
    rw [hsub, show (rs.take (18 + len)).drop 18 = (rs.drop 18).take len by rw [List.drop_take, hsub]] at bB
    have hbl : ((rs.drop 18).take len).length = len := by rw [List.length_take, List.length_drop]; omega
    have sB' : ∀ W' : World, (slB (.slice oR rs.length cR) (some (.int .i64 18)) (some (.int .i64 (18 + (len : Int)))) none).run Tryd.prog W' = .ok (.slice oB len (cR - 18)) W' := fun W' => by
      rw [show (18 : Int) + (len : Int) = ((18 + len : Nat) : Int) by omega]
      have := sB W'
      rwa [hsub] at this
    obtain ⟨Y, hY⟩ : ∃ Y, w.setCell ⟨bx, 3, none⟩ (.slice oB len (cR - 18)) = Y := ⟨_, rfl⟩
    have yo : ∀ j, j ≠ bx → Y.heap[j]? = w.heap[j]? := fun j hj => by rw [← hY]; exact heap_setCell_other w ⟨bx, 3, none⟩ j _ hj
    have ys : Y.heap.size = w.heap.size := by rw [← hY]; simp
    have yx : Y.heap[bx]? = some (.cells (rcA k n len (.slice oB len (cR - 18))) 142 (0, 0)) := by
      rw [← hY]
      exact (heap_setCell_same w bx 3 _ _ _ hx).trans rfl
    have yb : But g W Y := by
      rw [← hY]
      exact ⟨hb.os, hb.tape, hb.output, by simpa using hb.size, fun j hj hn => (heap_setCell_other w ⟨bx, 3, none⟩ j _ (by show j ≠ bx; omega)).trans (hb.block j hj hn)⟩
    have yW : W0.heap.size ≤ Y.heap.size := by rw [ys]; exact Nat.le_trans h0 hb.size
    have ya : ∀ j, j < W0.heap.size → Y.heap[j]? = W0.heap[j]? := fun j hj => (yo j (by omega)).trans (hag j hj)
    have yg := (yo g n1).trans hg
    have yr := (yo r0 n3).trans hr
    have yT : Tc Y := hT.keep (by rw [ys]; exact Nat.le_refl _) (yo _ (by omega))
    have HF := mkHid (And.intro yg (And.intro yx (And.intro yr (And.intro yb (And.intro (hR.keep yW ya) (And.intro (bB.keep yW ya) (And.intro yT (And.intro bB hbl))))))))
    clear yg yr yT yb yW ya yx yo ys sB hR bB hg hx hr hb hag hT hbl
    conv => arg 2; whnf
    go_wp2_with fail
    refine C.mono ?_
    rintro e w' ⟨rfl, rfl⟩
    simp only [brE, if_false, Bool.false_eq_true]
    clear C
    go_upto_region 8 with fail
    rename_i K hK
    have HK : Hid (∀ a w', Code.wp Tryd.prog (tlG Tryd.f77 9) (bodyPost Tryd.prog Tryd.f77 (RecP g W0 W dv t0 t1 t2 t3 t4 t5 pos X)) a w' → K a w') := hK
    clear hK
    go_wp2_with fail
    refine HK.out _ _ ?_
    obtain ⟨yg, yx, yr, yb, yR, yB, yT, bB, hbl⟩ := HF.out
    refine rec9 (k := k) (n := n) (bx := bx) (r0 := r0) (oB := oB) (cB := cR - 18) (rv := rv) (bd := (rs.drop 18).take len) W Y yg yx yr n1 n2 yb hW (by omega) yR yB hbl (by omega) yT _ ?_
    rintro e w' (⟨h1, rfl, h2, h3, h4⟩ | ⟨h1, rfl, h2, h3⟩)
    · rw [hX.out, if_neg (by rw [of_decide_eq_true h1]; exact not_not_intro rfl)]
      have hbl' : ((rs.drop 18).take len).length = len := hbl
      refine ⟨h2, ⟨oB, cR - 18, ?_, ?_⟩, ?_⟩
      · show _ = Ending.returned (.agg (rcA k n ((rs.drop 18).take len).length (.slice oB ((rs.drop 18).take len).length (cR - 18))))
        rw [hbl']
      · show Bl W0 (.slice oB ((rs.drop 18).take len).length (cR - 18)) ((rs.drop 18).take len)
        rw [hbl']; exact bB
      · show w'.heap[g]? = some (.cells (rdA dv (pos + 22 + ((rs.drop 18).take len).length) pos t0 t1 t2 t3 t4 t5) 130 (0, 0))
        rw [hbl']; exact h4
    · rw [hX.out, if_pos (of_decide_eq_false h1)]
      exact ⟨h2, rfl, h3⟩
end Go.Proofs.YtfimaflglnemdaaDoor
