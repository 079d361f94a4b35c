/- NoteInts: (*Copy).deep, whole. -/
import Derived.Test.YtnljnknnjahjkaaNiW
import Derived.Deep.RegionWith
import Derived.Deep.DrawnRows
namespace Go.Proofs.Ytnljnknnjahjkaa
open Go.RowKit
attribute [local go_sem ↓] toLdN toStN toApN toApF toBdF
noncomputable def tail8b : Code := ((Try.f8.body.bind (fromR 10)).getD .skip)
set_option maxRecDepth 100000 in
set_option maxHeartbeats 6400000 in
theorem deep_mid (B k d cb : Nat) (lf p q : Int) (kd : Int) (b : Bool) (x : Nat) (s : ByteArray) (oL oF : Option Addr) (nl cL nf cF : Nat) (ln lfd ls : List (Array Value)) (W wr : World) {oa : Option Addr} {n0 c0 : Nat} {v1 v3 v5 v8 v9 v10 v11 v12 v13 v14 v15 v16 v17 v18 v19 v20 v21 v22 v23 v24 v25 v26 v27 v28 v29 v30 v31 v32 v33 v34 v35 v36 v37 v38 v39 v40 v41 v42 v43 v44 v45 v46 v47 v48 v49 v50 v51 v52 v53 v54 v55 v56 v57 v58 v59 v60 v61 v62 v63 v64 v65 v66 v67 v68 v69 v70 v71 v72 v73 v74 v75 v76 v77 v78 v79 v80 v81 v82 v83 v84 v85 v86 v87 v88 v89 v90 v91 v92 v93 v94 v95 v96 v97 v98 v99 v100 v101 v102 v103 v104 v105 v106 v107 v108 v109 v110 v111 v112 v113 v114 v115 v116 v117 v118 v119 v120 v121 : Value}
    (HIH : Hid (∀ (c : Array Value) (d cb : Nat) (lf : Int) (W : World), d ≤ 100 → B ≤ cb → cb < W.heap.size → 0 ≤ lf → lf ≤ 70000 → W.heap[cb]? = some (.cells #[.int .i64 lf] 35 (0, 0)) → Nt B W k c → Calls Try.prog 8 #[.pointer (some ⟨cb, 0, none⟩), .agg c, .int .i64 (d : Int)] W (DpP B k cb lf c W)))
    (HFn : Hid (∀ a ∈ lfd, ∃ s r, a = #[.string s] ++ r ∧ Nt B W k r))
    (HRL : Hid (Rd B W 6 (.slice oL nl cL) ln)) (HRF : Hid (Rd B W 7 (.slice oF nf cF) lfd))
    (HF3 : Hid (∀ (i : Nat) c, lfd[i]? = some c → ∃ g o, oF = some ⟨g, o, none⟩ ∧ g < B ∧ c.size = 7 ∧ W.rangeAt g (o + i * 7) c.toList)) (hF2 : cF ≤ maxLen) (hF1 : nf ≤ cF)
    (HP : Hid (lf - 1 = p ∧ 0 ≤ lf ∧ lf ≤ 70000 ∧ nl = ln.length ∧ nf = lfd.length ∧ d ≤ 100 ∧ cb < W.heap.size ∧ B ≤ cb)) (HQ0 : Hid (p + 1 ≤ lf ∧ d ≤ 80)) (wd : IntKind.i64.wrap ((d : Int) + 1) = ((d + 1 : Nat) : Int))
    (HLs : Hid (Ls B k (W.heap.size + 2) 26 6 (noteT B k) (.slice oa n0 c0) ls ln q wr)) (HD : Hid (Ds cb W #[.int .i64 kd, .bool b, .float .f64 x, .string s, .slice oL nl cL, .slice oF nf cF] lf q wr)) (HQ : Hid (q + (ls.length : Int) + 1 ≤ lf ∧ W.heap.size + 2 ≤ wr.heap.size ∧ (0 ≤ q → ls.length = ln.length))) :
    Code.wp Try.prog tail8b (bodyPost Try.prog Try.f8 (DpP B (k + 1) cb lf #[.int .i64 kd, .bool b, .float .f64 x, .string s, .slice oL nl cL, .slice oF nf cF] W)) ⟨#[.pointer (some ⟨cb, 0, none⟩), v1, .int .i64 (d : Int), v3, .pointer (some ⟨W.heap.size, 0, none⟩), v5, .pointer (some ⟨W.heap.size + 1, 0, none⟩), .slice oa n0 c0, v8, v9, v10, v11, v12, v13, v14, v15, v16, v17, v18, v19, v20, v21, v22, v23, v24, v25, v26, v27, v28, v29, v30, v31, v32, v33, v34, v35, v36, v37, v38, v39, v40, v41, v42, v43, v44, v45, v46, v47, v48, v49, v50, v51, v52, v53, v54, v55, v56, v57, v58, v59, v60, v61, v62, v63, v64, v65, v66, v67, v68, v69, v70, v71, v72, v73, v74, v75, v76, v77, v78, v79, v80, v81, v82, v83, v84, v85, v86, v87, v88, v89, v90, v91, v92, v93, v94, v95, v96, v97, v98, v99, v100, v101, v102, v103, v104, v105, v106, v107, v108, v109, v110, v111, v112, v113, v114, v115, v116, v117, v118, v119, v120, v121], []⟩ wr := by
  obtain ⟨v2, Y3, hr2, ho2, hg2, hat2⟩ := run_apN1 wr (W.heap.size + 2) ls.length 23 (.slice oa n0 c0) ls (noteA 99 false 0 ⟨#[]⟩ (.slice none 0 0) (.slice none 0 0)) HLs.out.own rfl (note_one _ _ _ _ _ _ ⟨_, _, _, rfl⟩ ⟨_, _, _, rfl⟩) (by have := HP.out; have := HQ.out; have := HD.out.q0; omega) HQ.out.2.1
  have HLp : Hid (Lp B (W.heap.size + 2) 6 (.int .i64 99) (noteT B k) v2 ls ln q (.slice none 0 0) Y3) := Lp.made (carr_note B k) HLs.out (by have := HP.out; omega) HQ.out.2.1 HQ.out.2.2 rfl rfl ho2 hg2
  have HD4 : Hid (Ds cb W #[.int .i64 kd, .bool b, .float .f64 x, .string s, .slice oL nl cL, .slice oF nf cF] lf q Y3) := HD.out.grown HP.out.2.2.2.2.2.2.1 (fun g hg => (HLs.out.own.lt g hg).1) hg2
  have HQ4 : Hid (q + (0 : Int) + 1 ≤ lf ∧ W.heap.size + 2 ≤ Y3.heap.size) := ⟨by have := HQ.out; omega, (Array.getElem?_eq_some_iff.1 HD4.out.res).1⟩
  obtain ⟨o7, n7, c7, rfl⟩ := own_sl ho2
  clear ho2 hg2 hat2 HLs HD HQ
  unfold noteA at *
  conv => arg 2; whnf
  refine wp_seq_k ?_
  intro K hKK
  have HT : Hid (∀ a w, Code.wp Try.prog tail8 (bodyPost Try.prog Try.f8 (DpP B (k + 1) cb lf #[.int .i64 kd, .bool b, .float .f64 x, .string s, .slice oL nl cL, .slice oF nf cF] W)) a w → K a w) := hKK
  clear hKK
  go_wp2_with fail
  refine HT.out _ _ ?_
  exact deep_tail B k d cb lf p q kd b x s oL oF nl cL nf cF ln lfd ls W Y3 HIH HFn HRL HRF HF3 hF2 hF1 HP HQ0 wd HLp HD4 HQ4
set_option maxRecDepth 100000 in
set_option maxHeartbeats 6400000 in
theorem deep_any (B : Nat) : ∀ (k : Nat) (c : Array Value) (d cb : Nat) (lf : Int) (W : World), d ≤ 100 → B ≤ cb → cb < W.heap.size → 0 ≤ lf → lf ≤ 70000 → W.heap[cb]? = some (.cells #[.int .i64 lf] 35 (0, 0)) → Nt B W k c →
    Calls Try.prog 8 #[.pointer (some ⟨cb, 0, none⟩), .agg c, .int .i64 (d : Int)] W (DpP B k cb lf c W)
  | 0, _, _, _, _, _, _, _, _, _, _, _, h => h.elim
  | k + 1, c, d, cb, lf, W, hd, hB, hcb, hl0, hl1, hcr, h => by
    have IH := deep_any B k
    obtain ⟨kd, b, x, s, L, F, ln, lfd, rfl, hL, hF, hLn, hFn⟩ := h
    have HRL0 : Rd B W 6 L ln := hL
    have HRF0 : Rd B W 7 F lfd := hF
    obtain ⟨oL, cL, rfl, hL1, hL2, hL3⟩ := hL
    obtain ⟨oF, cF, rfl, hF1, hF2, hF3⟩ := hF
    obtain ⟨nl, hnl⟩ : ∃ n, n = ln.length := ⟨_, rfl⟩
    obtain ⟨nf, hnf⟩ : ∃ n, n = lfd.length := ⟨_, rfl⟩
    have HRL : Hid (Rd B W 6 (.slice oL nl cL) ln) := by rw [hnl]; exact HRL0
    have HRF : Hid (Rd B W 7 (.slice oF nf cF) lfd) := by rw [hnf]; exact HRF0
    clear HRL0 HRF0
    rw [← hnl] at hL1 ⊢
    rw [← hnf] at hF1 ⊢
    obtain ⟨W1, hW1⟩ : ∃ W1, (W.alloc (.cells (noteA kd b x s (.slice oL nl cL) (.slice oF nf cF)) 26)).alloc (.cells zN 26) = W1 := ⟨_, rfl⟩
    have z1 : (W.alloc (.cells (noteA kd b x s (.slice oL nl cL) (.slice oF nf cF)) 26)).heap.size = W.heap.size + 1 := by simp
    have bW : Below W.heap.size W W1 := by rw [← hW1]; exact ((Below.refl _ W).alloc (Nat.le_refl _) _).alloc (by simp) _
    have r0 : W1.heap[W.heap.size]? = some (.cells (noteA kd b x s (.slice oL nl cL) (.slice oF nf cF)) 26 (0, 0)) := by rw [← hW1]; exact (heap_alloc_old _ _ (h := by simp)).trans (heap_alloc_new _ _)
    have r1 : W1.heap[W.heap.size + 1]? = some (.cells zN 26 (0, 0)) := by
      rw [← hW1]
      have := heap_alloc_new (W.alloc (.cells (noteA kd b x s (.slice oL nl cL) (.slice oF nf cF)) 26)) (.cells zN 26)
      rw [z1] at this
      exact this
    have r2 : W1.heap[cb]? = some (.cells #[.int .i64 lf] 35 (0, 0)) := (bW.block cb hcb).trans hcr
    have q1 : W1.cell? ⟨cb, 0, none⟩ = some (.int .i64 lf) := by rw [cell_of_row _ _ _ _ _ _ r2]; rfl
    have f1 : W1.frozen? ⟨cb, 0, none⟩ = false := frozen_of_row _ _ _ _ _ r2
    obtain ⟨p, hp⟩ : ∃ p, lf - 1 = p := ⟨_, rfl⟩
    have w1 : IntKind.i64.wrap (lf - 1) = p := by rw [IntKind.wrap_i64]; omega
    obtain ⟨W2, hW2⟩ : ∃ W2, W1.setCell ⟨cb, 0, none⟩ (.int .i64 p) = W2 := ⟨_, rfl⟩
    have D2 : Ds cb W (noteA kd b x s (.slice oL nl cL) (.slice oF nf cF)) lf p W2 := by
      rw [← hW2]
      refine ⟨setC W1 cb lf p r2, (heap_setCell_other _ _ _ _ (by show W.heap.size ≠ cb; omega)).trans r0, (heap_setCell_other _ _ _ _ (by show W.heap.size + 1 ≠ cb; omega)).trans r1, tch_setC (Tch.of_below bW) _, by omega, by omega⟩
    have q2 : W2.cell? ⟨cb, 0, none⟩ = some (.int .i64 p) := by rw [cell_of_row _ _ _ _ _ _ D2.cbr]; rfl
    have f2 : W2.frozen? ⟨cb, 0, none⟩ = false := frozen_of_row _ _ _ _ _ D2.cbr
    have HS : Hid (isSl (.slice oL nl cL) ∧ isSl (.slice oF nf cF)) := ⟨⟨_, _, _, rfl⟩, ⟨_, _, _, rfl⟩⟩
    rw [← hW2, ← hW1] at q2 f2
    rw [← hW1] at q1 f1
    have HW : Hid ((W.alloc (.cells (noteA kd b x s (.slice oL nl cL) (.slice oF nf cF)) 26)).alloc (.cells zN 26) = W1 ∧ W1.setCell ⟨cb, 0, none⟩ (.int .i64 p) = W2) := ⟨hW1, hW2⟩
    have HP : Hid (lf - 1 = p ∧ 0 ≤ lf ∧ lf ≤ 70000 ∧ nl = ln.length ∧ nf = lfd.length ∧ d ≤ 100 ∧ cb < W.heap.size ∧ B ≤ cb) := ⟨hp, hl0, hl1, hnl, hnf, hd, hcb, hB⟩
    have HD2 : Hid _ := D2
    by_cases hend : p < 0 ∨ 80 < d
    · have D3 := D2.setC hcb (-1) (by omega) (by omega)
      obtain ⟨W3, hW3⟩ : ∃ W3, W2.setCell ⟨cb, 0, none⟩ (.int .i64 (-1)) = W3 := ⟨_, rfl⟩
      rw [hW3] at D3
      have ld := ld_row W3 W.heap.size _ rfl D3.box
      have st := st_N W3 (W.heap.size + 1) zN _ rfl rfl (note_one kd b x s _ _ HS.out.1 HS.out.2) D3.res
      have HF : Hid ((W3.setRow (W.heap.size + 1) (noteA kd b x s (.slice oL nl cL) (.slice oF nf cF))).heap[W.heap.size + 1]? = some (.cells (noteA kd b x s (.slice oL nl cL) (.slice oF nf cF)) 26 (0, 0)) ∧ (W3.setRow (W.heap.size + 1) (noteA kd b x s (.slice oL nl cL) (.slice oF nf cF))).heap[cb]? = some (.cells #[.int .i64 (-1)] 35 (0, 0)) ∧ Tch cb W (W3.setRow (W.heap.size + 1) (noteA kd b x s (.slice oL nl cL) (.slice oF nf cF)))) := by
        refine ⟨setRow_heap _ _ _ _ _ _ D3.res, (setRow_other _ _ _ _ (by omega)).trans D3.cbr, ?_⟩
        have t3 := D3.tch
        exact ⟨t3.os, t3.tape, t3.output, by simpa using t3.size, fun j hj hn => (setRow_other _ _ _ _ (by omega)).trans (t3.block j hj hn)⟩
      rw [← hW3, ← hW2, ← hW1] at ld st
      have HW3 : Hid _ := hW3
      have hdp : ¬ p < 0 → (80 : Int) < (d : Int) := by omega
      clear hW1 hW2 hW3 D2 D3 r0 r1 r2 bW hcr IH hLn hFn hL3 hF3 hp hnl hnf z1 HD2 hcb hB hl0 hl1 hd
      by_cases hp0 : p < 0
      · clear hend hdp
        unfold noteA zN at *
        go_enter Try.func8, Try.ntmps8
        go_wp2
        rw [HW.out.1, HW.out.2, HW3.out]
        refine bodyPost_ret (results_N rfl _ _ (W.heap.size + 1) _ rfl rfl HF.out.1) rfl ?_
        exact ⟨kd, b, x, s, _, _, _, _, -1, rfl, HS.out.1, HS.out.2, rfl, HF.out.2.1, by have := HP.out; omega, by omega, HF.out.2.2, fun h => by omega⟩
      · have hd8 := hdp hp0
        clear hend hdp
        unfold noteA zN at *
        go_enter Try.func8, Try.ntmps8
        go_wp2
        rw [HW.out.1, HW.out.2, HW3.out]
        refine bodyPost_ret (results_N rfl _ _ (W.heap.size + 1) _ rfl rfl HF.out.1) rfl ?_
        exact ⟨kd, b, x, s, _, _, _, _, -1, rfl, HS.out.1, HS.out.2, rfl, HF.out.2.1, by have := HP.out; omega, by omega, HF.out.2.2, fun h => by omega⟩
    · have hp0 : ¬ p < 0 := by omega
      have hd8 : ¬ ((80 : Int) < (d : Int)) := by omega
      have HIH : Hid (∀ (c : Array Value) (d cb : Nat) (lf : Int) (W : World), d ≤ 100 → B ≤ cb → cb < W.heap.size → 0 ≤ lf → lf ≤ 70000 → W.heap[cb]? = some (.cells #[.int .i64 lf] 35 (0, 0)) → Nt B W k c → Calls Try.prog 8 #[.pointer (some ⟨cb, 0, none⟩), .agg c, .int .i64 (d : Int)] W (DpP B k cb lf c W)) := IH
      have HLn : Hid (∀ a ∈ ln, Nt B W k a) := hLn
      have HFn : Hid (∀ a ∈ lfd, ∃ s r, a = #[.string s] ++ r ∧ Nt B W k r) := hFn
      have HL3 : Hid _ := hL3
      have HF3 : Hid _ := hF3
      have HQ0 : Hid (p + 1 ≤ lf ∧ d ≤ 80) := ⟨by omega, by omega⟩
      have wd : IntKind.i64.wrap ((d : Int) + 1) = ((d + 1 : Nat) : Int) := by rw [IntKind.wrap_i64]; omega
      have HZ : Hid (W.heap.size + 2 ≤ W2.heap.size) := (Array.getElem?_eq_some_iff.1 D2.res).1
      clear hW1 hW2 D2 r0 r1 r2 bW hcr IH hLn hFn hL3 hF3 hp hnl hnf z1 hcb hB hl0 hl1 hd hend
      unfold noteA zN at *
      go_enter Try.func8, Try.ntmps8
      go_wp2_with fail
      rw [HW.out.1, HW.out.2]
      clear q1 f1 q2 f2 w1
      rename_i K hKK
      have HT : Hid (∀ a w, Code.wp Try.prog tail8b (bodyPost Try.prog Try.f8 (DpP B (k + 1) cb lf #[.int .i64 kd, .bool b, .float .f64 x, .string s, .slice oL nl cL, .slice oF nf cF] W)) a w → K a w) := hKK
      clear hKK
      go_loopw [7, 8] (fun lv iv wr => ∃ (i : Nat) (ls : List (Array Value)) (q : Int), iv = .int .i64 (i : Int) ∧ Hid (ls.length = i) ∧ isSl lv ∧ Hid (Ds cb W #[.int .i64 kd, .bool b, .float .f64 x, .string s, .slice oL nl cL, .slice oF nf cF] lf q wr) ∧ Hid (Ls B k (W.heap.size + 2) 26 6 (noteT B k) lv ls ln q wr) ∧ Hid (q + (i : Int) + 1 ≤ lf ∧ i ≤ nl ∧ W.heap.size + 2 ≤ wr.heap.size)) (fun _ iv _ => nl - (intOf iv).toNat)
      case atStart => exact ⟨0, [], p, rfl, (by show _ = _; rfl), ⟨none, 0, 0, rfl⟩, HD2, ⟨World.ownsRow_nil _ _ _ _, (fun c hc => by cases hc), Nat.zero_le _, (fun _ i a c h => by simp at h)⟩, ⟨by have := HQ0.out; omega, Nat.zero_le _, HZ.out⟩⟩
      case round =>
        obtain ⟨i, ls, q, rfl, Hls, ⟨oa, n0, c0, rfl⟩, HD, HLs, HQ⟩ := hrel
        have k2 : wr.cell? ⟨cb, 0, none⟩ = some (.int .i64 q) := by rw [cell_of_row _ _ _ _ _ _ HD.out.cbr]; rfl
        have a4 : wr.cell? ⟨W.heap.size, 4, none⟩ = some (.slice oL nl cL) := by rw [cell_of_row _ _ _ _ _ _ HD.out.box]; rfl
        by_cases hgo : i < nl ∧ 0 ≤ q
        · have hlt' : (i : Int) < (nl : Int) := by omega
          have hq0 : (0 : Int) ≤ q := hgo.2
          have hlN : i < ln.length := by rw [← HP.out.2.2.2.1]; exact hgo.1
          obtain ⟨c, hc⟩ : ∃ c, ln[i]? = some c := ⟨_, List.getElem?_eq_getElem hlN⟩
          obtain ⟨g, o, hoL, hgB, hcz, hcr⟩ := HL3.out i c hc
          have keepB : ∀ j, j < B → wr.heap[j]? = W.heap[j]? := fun j hj => HD.out.tch.block j (by have := HP.out; omega) (by have := HP.out; omega)
          have hNt : Nt B wr k c := (HLn.out c (List.mem_of_getElem? hc)).keep keepB
          have C : Hid _ := HIH.out c (d + 1) cb q wr (by have := HP.out; omega) HP.out.2.2.2.2.2.2.2 (by have := HP.out; have := HQ.out; omega) hq0 (by have := HP.out; have := HQ.out; omega) HD.out.cbr hNt
          have l2 : (ldN (.pointer (some ⟨g, o + i * 6, none⟩))).run Try.prog wr = .ok (.agg c) wr := ld_mid wr g (o + i * 6) c hcz (range_keep hcr (keepB g hgB))
          subst hoL
          have i0 : (0 : Int) ≤ (i : Int) := by omega
          have w2 : IntKind.i64.wrap ((i : Int) + 1) = (i : Int) + 1 := by rw [IntKind.wrap_i64]; simp only [maxLen] at hL2; omega
          have HI : Hid (i < nl ∧ 0 ≤ q ∧ ln[i]? = some c) := ⟨hgo.1, hgo.2, hc⟩
          clear hgo hlN hc hcr hcz hgB keepB hNt
          go_wp2_with fail
          refine Calls.mono C.out ?_
          rintro e X' ⟨kd', b', x', s', L0, F0, L', F', q', hce, hL', hF', rfl, hcb', hq1, hq2, ht, hTw⟩
          have hlen : ls.length = i := Hls.out
          have hown := (HLs.out.call (q' := q') (carr_note B k) HI.out.2.1 (by have := HP.out; omega) HP.out.2.2.2.2.2.2.2 HQ.out.2.2 ht)
          obtain ⟨v', X3, hr, ho, hg, hat⟩ := run_apN1 X' (W.heap.size + 2) ls.length 23 (.slice oa n0 c0) ls (noteA kd' b' x' s' L' F') hown.own rfl (note_one _ _ _ _ _ _ hL' hF') (by have := HQ.out; have := HP.out; omega) (by have := ht.size; have := HQ.out; omega)
          have hadd := hown.add (carr_note B k) (t := noteA kd' b' x' s' L' F') (c := c) (N := wr.heap.size) (ty := 26) (by have := HP.out; omega) HQ.out.2.2 ht.size (fun g hg2 => (HLs.out.own.lt g hg2).2) (by rw [hlen]; exact HI.out.2.2) rfl (fun h => hTw h) ho hg hat
          have HA : Hid _ := hadd
          have hsl : isSl v' := by
            rcases ho.2 with ⟨h1, _⟩ | ⟨g, cap, cur, h1, _⟩
            · exact ⟨_, _, _, h1⟩
            · exact ⟨_, _, _, h1⟩
          have hD3 : Ds cb W #[.int .i64 kd, .bool b, .float .f64 x, .string s, .slice (some ⟨g, o, none⟩) nl cL, .slice oF nf cF] lf q' X3 := by
            have hlt := hown.own.lt
            have hz := HQ.out.2.2
            have hz2 := ht.size
            have hz3 : X'.heap.size + 1 ≤ X3.heap.size := by have := hg.size; simpa using this
            have kp : ∀ j, j < W.heap.size + 2 → X3.heap[j]? = X'.heap[j]? := fun j hj => (hg.block j (by simp; omega) (fun e => by have := (hlt j e.symm).1; omega)).trans (heap_alloc_old _ _ (h := by omega))
            have hcbw := HP.out.2.2.2.2.2.2.1
            have dd := HD.out
            refine ⟨(kp cb (by omega)).trans hcb', (kp _ (by omega)).trans ((ht.block _ (by omega) (by omega)).trans dd.box), (kp _ (by omega)).trans ((ht.block _ (by omega) (by omega)).trans dd.res), ?_, hq2, by have := dd.q1; omega⟩
            have t2 := dd.tch.trans ht
            exact ⟨hg.os.trans t2.os, hg.tape.trans t2.tape, hg.output.trans t2.output, by have := t2.size; omega, fun j hj hn => (kp j (by omega)).trans (t2.block j hj hn)⟩
          have HD3 : Hid _ := hD3
          have HQ3 : Hid (q' + ((i + 1 : Nat) : Int) + 1 ≤ lf ∧ i + 1 ≤ nl ∧ W.heap.size + 2 ≤ X3.heap.size) := ⟨by have := HQ.out; omega, HI.out.1, (Array.getElem?_eq_some_iff.1 hD3.res).1⟩
          have Hl2 : Hid ((ls ++ [noteA kd' b' x' s' L' F']).length = i + 1) := by show _ = _; rw [List.length_append, hlen]; rfl
          clear C hce hcb' hq1 hq2 ht hTw hown ho hg hat hadd hD3 hlen l2 k2 a4
          unfold noteA at *
          go_wp2_with fail
          go_roundw
          case rel => exact ⟨i + 1, _, q', by go_num, Hl2, hsl, HD3, HA, HQ3⟩
          case measure => have := HI.out.1; simp [intOf]; omega
        · have HQ5 : Hid (q + (ls.length : Int) + 1 ≤ lf ∧ W.heap.size + 2 ≤ wr.heap.size ∧ (0 ≤ q → ls.length = ln.length)) := ⟨by have h1 := Hls.out; have := HQ.out; omega, HQ.out.2.2, fun h0 => by have h1 := Hls.out; have h2 := HP.out; have h3 := HQ.out; omega⟩
          have hex : ((i : Int) < (nl : Int) ∧ ¬ (0 : Int) ≤ q) ∨ ¬ (i : Int) < (nl : Int) := by omega
          clear hgo
          rcases hex with ⟨hx1, hx2⟩ | hx1
          all_goals
            go_wp2_with fail
            refine HT.out _ _ ?_
            exact deep_mid B k d cb lf p q kd b x s oL oF nl cL nf cF ln lfd ls W wr HIH HFn HRL HRF HF3 hF2 hF1 HP HQ0 wd HLs HD HQ5
end Go.Proofs.Ytnljnknnjahjkaa
