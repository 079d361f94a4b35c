/- JournalReplays: Replay of the code. -/
import Derived.Test.YtfimaflglnemdaaDoorJrZc
namespace Go.Proofs.YtfimaflglnemdaaDoor
open Go.RowKit
open JM
theorem stay_ty {B g : Nat} {T : Nat → Prop} {w w' : World} {C : Array Value} {t0 : Nat} (hg : w.heap[g]? = some (.cells C t0 (0, 0))) (ht : ∀ t, T t → t ≠ t0) (h : But g w w') : Stay B T w w' := fun k c t _ hT hc => by
  by_cases e : k = g
  · subst e
    rw [hg] at hc
    injection hc with hc
    injection hc with _ hc
    exact absurd hc.symm (ht t hT)
  · exact h.block k (Array.getElem?_eq_some_iff.1 hc).1 e
theorem tys : ∀ t : Nat, (t = 5 ∨ t = 23 ∨ t = 27) → t ≠ 110 := fun t ht => by rcases ht with ht | ht | ht <;> (subst ht; decide)
theorem ix0 (w : World) (o0 o1 : Option Addr) (n0 n1 c0 c1 : Nat) : (Instr.index 24 (.agg #[.slice o0 n0 c0, .slice o1 n1 c1]) (.int .i64 0)).run Tryd.prog w = .ok (.slice o0 n0 c0) w := by kernel_rfl
theorem ix1 (w : World) (o0 o1 : Option Addr) (n0 n1 c0 c1 : Nat) : (Instr.index 24 (.agg #[.slice o0 n0 c0, .slice o1 n1 c1]) (.int .i64 1)).run Tryd.prog w = .ok (.slice o1 n1 c1) w := by kernel_rfl
theorem rep_long0 {l0 l1 : List Nat} (h : 67108864 < l0.length) : rep l0 l1 = .err 1 0 0 := by unfold rep; rw [if_pos h]
theorem rep_bad0 {l0 l1 : List Nat} {p : Nat} (h : ¬ 67108864 < l0.length) (h2 : (file crcN l0).2 = some p) : rep l0 l1 = .err (errOf p) 0 p := by unfold rep; rw [if_neg h, h2]
theorem rep_long1 {l0 l1 : List Nat} (h : ¬ 67108864 < l0.length) (h2 : (file crcN l0).2 = none) (h3 : 67108864 < l1.length) : rep l0 l1 = .err 1 1 0 := by unfold rep; rw [if_neg h, h2]; dsimp only; rw [if_pos h3]
theorem rep_bad1 {l0 l1 : List Nat} {p : Nat} (h : ¬ 67108864 < l0.length) (h2 : (file crcN l0).2 = none) (h3 : ¬ 67108864 < l1.length) (h4 : (file crcN l1).2 = some p) : rep l0 l1 = .err (errOf p) 1 p := by unfold rep; rw [if_neg h, h2]; dsimp only; rw [if_neg h3, h4]
theorem rep_pick {l0 l1 : List Nat} (h : ¬ 67108864 < l0.length) (h2 : (file crcN l0).2 = none) (h3 : ¬ 67108864 < l1.length) (h4 : (file crcN l1).2 = none) : rep l0 l1 = pick (file crcN l0).1 (file crcN l1).1 := by unfold rep; rw [if_neg h, h2]; dsimp only; rw [if_neg h3, h4]
set_option maxRecDepth 100000 in
theorem put12r (X : Nat → Value) (v0 v1 v2 v3 v4 v5 v6 v7 v8 v9 v10 v11 v12 v13 v14 v15 v16 v17 v18 v19 v20 v21 v22 v23 v24 v25 v26 v27 v28 v29 v30 v31 v32 v33 v34 v35 v36 v37 v38 v39 v40 v41 v42 v43 v44 v45 v46 v47 v48 v49 v50 v51 v52 v53 v54 v55 v56 v57 v58 v59 v60 v61 v62 v63 v64 v65 v66 v67 v68 v69 v70 v71 : Value) : putN reg12r X ⟨#[v0, v1, v2, v3, v4, v5, v6, v7, v8, v9, v10, v11, v12, v13, v14, v15, v16, v17, v18, v19, v20, v21, v22, v23, v24, v25, v26, v27, v28, v29, v30, v31, v32, v33, v34, v35, v36, v37, v38, v39, v40, v41, v42, v43, v44, v45, v46, v47, v48, v49, v50, v51, v52, v53, v54, v55, v56, v57, v58, v59, v60, v61, v62, v63, v64, v65, v66, v67, v68, v69, v70, v71], []⟩ reg12r.size = ⟨#[v0, v1, v2, v3, v4, v5, v6, v7, v8, v9, v10, X 4, X 5, v13, v14, v15, v16, v17, v18, v19, v20, v21, v22, v23, v24, v25, v26, v27, v28, v29, v30, v31, v32, v33, v34, v35, v36, v37, v38, v39, v40, v41, v42, X 0, X 1, X 2, X 3, v47, v48, v49, v50, v51, v52, v53, v54, v55, v56, v57, v58, v59, v60, v61, v62, v63, v64, v65, v66, v67, v68, v69, v70, v71], []⟩ := by kernel_rfl
/-- The answer is laid down. -/
theorem ans_end {W w : World} {X : Ans} {c : Array Value} {t0 t1 t2 t3 t4 t5 : Value} (hb : Below W.heap.size W w) (hr : w.heap[W.heap.size + 1]? = some (.cells zS 47 (0, 0))) (hc : c = #[t0, t1, t2, t3, t4, t5]) (cc f p : Nat)
    (hX : match X with
      | .err c' f' p' => #[t0, t1, t2, t3, t4, t5] = zS ∧ cc = c' ∧ f = f' ∧ p = p'
      | .none => #[t0, t1, t2, t3, t4, t5] = #[.int .i64 (-1), .int .i64 0, .int .i64 0, .int .i64 0, .slice Option.none 0 0, .slice Option.none 0 0] ∧ cc = 0 ∧ f = 0 ∧ p = 0
      | .story i s => (t0 = .int .i64 (i : Int) ∧ t1 = .int .i64 (s.good : Int) ∧ t2 = .int .i64 (s.gen : Int) ∧ t3 = .int .i64 (s.first : Int) ∧ Ll W.heap.size w t4 s.base ∧ Lb W.heap.size w t5 s.batches) ∧ cc = 0 ∧ f = 0 ∧ p = 0) :
    (w.setRow (W.heap.size + 1) c).heap[W.heap.size + 1]? = some (.cells c 47 (0, 0)) ∧ AnsP W X (.returned (.tuple #[.agg c, .int .i64 (cc : Int), .int .i64 (f : Int), .int .i64 (p : Int)])) (w.setRow (W.heap.size + 1) c) := by
  subst hc
  have hB : But (W.heap.size + 1) w (w.setRow (W.heap.size + 1) #[t0, t1, t2, t3, t4, t5]) := ⟨rfl, rfl, rfl, by rw [size_setRow]; omega, fun k _ hn => setRow_other _ _ _ _ hn⟩
  have hst : ∀ T : Nat → Prop, (∀ t, T t → t ≠ 47) → Stay W.heap.size T w (w.setRow (W.heap.size + 1) #[t0, t1, t2, t3, t4, t5]) := fun T hT => stay_ty hr hT hB
  refine ⟨setRow_heap _ _ _ _ _ _ hr, ⟨hb.os, hb.tape, hb.output, by rw [size_setRow]; exact hb.size, fun k hk => (setRow_other _ _ _ _ (by omega)).trans (hb.block k hk)⟩, t0, t1, t2, t3, t4, t5, cc, f, p, rfl, ?_⟩
  cases X with
  | err c' f' p' => exact hX
  | none => exact hX
  | story i s => exact ⟨⟨hX.1.1, hX.1.2.1, hX.1.2.2.1, hX.1.2.2.2.1, hX.1.2.2.2.2.1.keep (hst _ (fun t ht => by rcases ht with ht | ht <;> (subst ht; decide))), hX.1.2.2.2.2.2.keep (hst _ (fun t ht => by rcases ht with ht | ht | ht <;> (subst ht; decide)))⟩, hX.2⟩
attribute [local go_sem ↓] toLdSt toStSt toStBr in
set_option maxRecDepth 100000 in
set_option maxHeartbeats 3200000 in
theorem replay_any (W : World) {c0 c1 : Nat} {o0 o1 : Option Addr} {l0 l1 : List Nat} (h0 : Bl W (.slice o0 l0.length c0) l0) (h1 : Bl W (.slice o1 l1.length c1) l1) (hT : Tc W) :
    Calls Tryd.prog 28 #[.agg #[.slice o0 l0.length c0, .slice o1 l1.length c1]] W (AnsP W (rep l0 l1)) := by
  obtain ⟨V, hV⟩ : ∃ V, ((W.alloc (.cells #[.slice o0 l0.length c0, .slice o1 l1.length c1] 26)).alloc (.cells #[.int .i64 0, .int .i64 0, .int .i64 0, .int .i64 0, .slice none 0 0, .slice none 0 0] 47)).alloc (.cells #[.int .i64 0, .int .i64 0, .int .i64 0, .int .i64 0, .slice none 0 0, .slice none 0 0, .int .i64 0, .int .i64 0, .int .i64 0, .int .i64 0, .slice none 0 0, .slice none 0 0] 110) = V := ⟨_, rfl⟩
  have vb : Below W.heap.size W V := by rw [← hV]; exact (((Below.refl _ W).alloc (Nat.le_refl _) _).alloc (by simp) _).alloc (by simp; omega) _
  have vs : V.heap.size = W.heap.size + 1 + 1 + 1 := by rw [← hV]; simp
  have v1 : V.heap[W.heap.size + 1]? = some (.cells zS 47 (0, 0)) := by rw [← hV]; exact (al3 W _ _ _).2.1
  have v2 : V.heap[W.heap.size + 1 + 1]? = some (.cells (ar12 (.int .i64 0) (.int .i64 0) (.int .i64 0) (.int .i64 0) (.slice none 0 0) (.slice none 0 0) (.int .i64 0) (.int .i64 0) (.int .i64 0) (.int .i64 0) (.slice none 0 0) (.slice none 0 0)) 110 (0, 0)) := by rw [← hV]; exact (al3 W _ _ _).2.2
  have v0 : V.heap[W.heap.size]? = some (.cells #[.slice o0 l0.length c0, .slice o1 l1.length c1] 26 (0, 0)) := by rw [← hV]; exact (al3 W _ _ _).1
  have vc0 : V.cell? ⟨W.heap.size, 0, none⟩ = some (.slice o0 l0.length c0) := (cell_of_row _ _ _ _ _ _ v0).trans rfl
  have vc1 : V.cell? ⟨W.heap.size, 1, none⟩ = some (.slice o1 l1.length c1) := (cell_of_row _ _ _ _ _ _ v0).trans rfl
  have HF := mkHid (And.intro h0 (And.intro h1 (And.intro hT (And.intro vb (And.intro vs (And.intro v1 v2))))))
  clear h0 h1 hT vb vs v1 v2 v0
  go_enter Tryd.func28, Tryd.ntmps28
  go_wp2_with fail
  clear hV vc0 vc1
  go_loopw [15] (fun iv wr => ∃ (i : Nat) (x0 x1 x2 x3 x4 x5 y0 y1 y2 y3 y4 y5 : Value), iv = .int .i64 (i : Int) ∧ i ≤ 2 ∧ Hid (wr.heap[W.heap.size + 1]? = some (.cells zS 47 (0, 0)) ∧ wr.heap[W.heap.size + 1 + 1]? = some (.cells (ar12 x0 x1 x2 x3 x4 x5 y0 y1 y2 y3 y4 y5) 110 (0, 0)) ∧ Below W.heap.size W wr ∧ (1 ≤ i → Okf W.heap.size 0 wr l0 x0 x1 x2 x3 x4 x5) ∧ (2 ≤ i → Okf W.heap.size 1 wr l1 y0 y1 y2 y3 y4 y5))) (fun iv _ => 3 - (intOf iv).toNat)
  case atStart => exact ⟨0, _, _, _, _, _, _, _, _, _, _, _, _, rfl, by omega, HF.out.2.2.2.2.2.1, HF.out.2.2.2.2.2.2, HF.out.2.2.2.1, fun h => (by omega), fun h => (by omega)⟩
  case round =>
    obtain ⟨i, x0, x1, x2, x3, x4, x5, y0, y1, y2, y3, y4, y5, rfl, hi, HI⟩ := hrel
    have hsz := (Array.getElem?_eq_some_iff.1 HI.out.2.1).1
    match i, hi, HI with
    | 0, hi, HI =>
      have ci : ((0 : Nat) : Int) < 2 := by decide
      have hix := fun w => ix0 w o0 o1 l0.length l1.length c0 c1
      have st1 := st_StR wr (W.heap.size + 1) zS #[.int .i64 0, .int .i64 0, .int .i64 0, .int .i64 0, .slice none 0 0, .slice none 0 0] rfl rfl (by simp [Value.oneCell']) HI.out.1
      by_cases hlg : 67108864 < l0.length
      · have hlg2 : (67108864 : Int) < (l0.length : Int) := by omega
        obtain ⟨Y, hY⟩ : ∃ Y, wr.setRow (W.heap.size + 1) #[.int .i64 0, .int .i64 0, .int .i64 0, .int .i64 0, .slice none 0 0, .slice none 0 0] = Y := ⟨_, rfl⟩
        have yr : Y.heap[W.heap.size + 1]? = some (.cells zS 47 (0, 0)) := by rw [← hY]; exact setRow_heap _ _ _ _ _ _ HI.out.1
        have yb : Below W.heap.size W Y := by rw [← hY]; exact ⟨HI.out.2.2.1.os, HI.out.2.2.1.tape, HI.out.2.2.1.output, by rw [size_setRow]; exact HI.out.2.2.1.size, fun k hk => (setRow_other _ _ _ _ (by omega)).trans (HI.out.2.2.1.block k hk)⟩
        rw [hY] at st1
        have HY := mkHid (And.intro yr yb)
        clear yr yb hY
        go_wp2_with fail
        refine bodyPost_ret (results_Rp _ _ (W.heap.size + 1) zS _ _ _ rfl rfl rfl rfl rfl HY.out.1) rfl ?_
        refine ⟨HY.out.2, _, _, _, _, _, _, 1, 0, 0, rfl, ?_⟩
        rw [rep_long0 hlg]
        exact ⟨rfl, rfl, rfl, rfl⟩
      · have hlg2 : ¬ (67108864 : Int) < (l0.length : Int) := by omega
        have CF := readFile_any wr (fl := 0) (HF.out.1.below HI.out.2.2.1) (by omega) (HF.out.2.2.1.below HI.out.2.2.1 HF.out.2.2.1.sz)
        clear st1
        go_wp2_with fail
        refine CF.mono ?_
        rintro e w ⟨hb, t0, t1, t2, t3, t4, t5, sp, n, rfl, hTo, hone, hm⟩
        clear CF
        obtain ⟨V1, V2, s1, s2, r1, r2, bV, zV⟩ := two_world w #[t0, t1, t2, t3, t4, t5] #[.bool sp, .int .i64 (n : Int)] rfl rfl hone (by simp [Value.oneCell'])
        have wbz : wr.heap.size ≤ w.heap.size := hb.size
        have b0 : V2.cell? ⟨w.heap.size + 1, 0, none⟩ = some (.bool sp) := (cell_of_row _ _ _ _ _ _ r2).trans rfl
        have b1 : V2.cell? ⟨w.heap.size + 1, 1, none⟩ = some (.int .i64 (n : Int)) := (cell_of_row _ _ _ _ _ _ r2).trans rfl
        have bVV : Below wr.heap.size wr V2 := hb.trans (bV.mono hb.size)
        have vBW : Below W.heap.size W V2 := HI.out.2.2.1.trans (bVV.mono HI.out.2.2.1.size)
        have k1 : V2.heap[W.heap.size + 1]? = some (.cells zS 47 (0, 0)) := (bVV.block _ (by omega)).trans HI.out.1
        have k2 := (bVV.block _ hsz).trans HI.out.2.1
        have hTo2 := (hTo.mono HI.out.2.2.1.size).keep (stay_below bV)
        cases hR : (file crcN l0).2 with
        | some p =>
          rw [hR] at hm
          obtain ⟨rfl, rfl⟩ := hm
          have HY := mkHid (And.intro k1 (And.intro vBW (And.intro b1 zV)))
          clear hTo hTo2 k1 k2 vBW bVV bV b1 r1 r2 hone hb
          dsimp only
          go_upto_region 9 with fail
          rename_i K hK
          replace hK := mkHid hK
          refine wp_region_vals (ops := reg9r) (V := V9r (W.heap.size + 1) (w.heap.size + 1) n (errOf n) 0) (S := fun _ w' => But (W.heap.size + 1) V2 w' ∧ w'.heap[W.heap.size + 1]? = some (.cells zS 47 (0, 0))) (by kernel_rfl) (fun i o ho => (okR_at okR9r ho).1) (fun i j o oj d ho hj q1 q2 => (okR_at okR9r ho).2.2 j oj d hj q1 q2) (fun i o d ho q => (okR_at okR9r ho).2.1 d q)
            (step9r _ (W.heap.size + 1) (w.heap.size + 1) n (errOf n) 0 _ _ rfl rfl rfl (fun i _ listed X h => h) (fun listed X h _ _ _ => ?_) (fun listed X h _ _ _ => ⟨X, ?_, h⟩) (fun listed X h _ _ _ => ⟨X, ?_, h⟩) (fun listed X h _ _ _ => ⟨X, ?_, h⟩) (fun listed X h _ _ _ => ?_)) ?_ ?_
          · refine (spoiltErrno_any n X).mono ?_
            rintro e x ⟨rfl, rfl⟩
            exact ⟨rfl, h⟩
          · have : X.cell? ⟨w.heap.size + 1, 1, none⟩ = some (.int .i64 (n : Int)) := (World.cell?_of_block (w := V2) (a := ⟨w.heap.size + 1, 1, none⟩) (h.1.block (w.heap.size + 1) (by rw [HY.out.2.2.2]; omega) (by omega))).trans HY.out.2.2.1
            simp [go_sem, this]
          · have : X.cell? ⟨w.heap.size + 1, 1, none⟩ = some (.int .i64 (n : Int)) := (World.cell?_of_block (w := V2) (a := ⟨w.heap.size + 1, 1, none⟩) (h.1.block (w.heap.size + 1) (by rw [HY.out.2.2.2]; omega) (by omega))).trans HY.out.2.2.1
            simp [go_sem, this]
          · exact run_build X 47 _ _ (by kernel_rfl)
          · refine ⟨X.setRow (W.heap.size + 1) zS, st_StR X _ zS zS rfl rfl (by simp [zS, Value.oneCell']) h.2, ⟨h.1.os, h.1.tape, h.1.output, by rw [size_setRow]; exact h.1.size, fun k hk hn => (setRow_other _ _ _ _ hn).trans (h.1.block k hk hn)⟩, setRow_heap _ _ _ _ _ _ h.2⟩
          · exact ⟨⟨rfl, rfl, rfl, Nat.le_refl _, fun _ _ _ => rfl⟩, HY.out.1⟩
          · rintro x ⟨hb9, hr9⟩
            rw [put9r]
            refine hK.out _ _ ?_
            clear hK
            go_wp2_with fail
            refine bodyPost_ret (results_Rp _ _ (W.heap.size + 1) zS _ _ _ rfl rfl rfl rfl rfl hr9) rfl ?_
            refine ⟨⟨hb9.os.trans HY.out.2.1.os, hb9.tape.trans HY.out.2.1.tape, hb9.output.trans HY.out.2.1.output, Nat.le_trans HY.out.2.1.size hb9.size, fun k hk => (hb9.block k (by have := HY.out.2.1.size; omega) (by omega)).trans (HY.out.2.1.block k hk)⟩, _, _, _, _, _, _, errOf n, 0, n, rfl, ?_⟩
            rw [rep_bad0 hlg hR]
            exact ⟨rfl, rfl, rfl, rfl⟩
        | none =>
          rw [hR] at hm
          obtain rfl := hm
          have hL := ld_St V2 w.heap.size 0 #[t0, t1, t2, t3, t4, t5] rfl (range_row r1)
          have hS := st_St V2 (W.heap.size + 1 + 1) 0 #[t0, t1, t2, t3, t4, t5] rfl hone (ar_there k2).1
          have hset := ar_set0 t0 t1 t2 t3 t4 t5 k2
          rw [show (#[t0, t1, t2, t3, t4, t5] : Array Value).toList = [t0, t1, t2, t3, t4, t5] from rfl] at hS
          obtain ⟨Y, hY⟩ : ∃ Y, V2.setCells (W.heap.size + 1 + 1) 0 [t0, t1, t2, t3, t4, t5] = Y := ⟨_, rfl⟩
          rw [hY] at hS hset
          have yT := hTo2.keep (stay_ty k2 tys hset.2)
          have yO := fun (h : Okf W.heap.size 0 wr l0 x0 x1 x2 x3 x4 x5) => (h.keep (stay_below bVV)).keep (stay_ty k2 tys hset.2)
          have y1 : Y.heap[W.heap.size + 1]? = some (.cells zS 47 (0, 0)) := (hset.2.block _ (by have := (Array.getElem?_eq_some_iff.1 k2).1; omega) (by omega)).trans k1
          have yb : Below W.heap.size W Y := ⟨hset.2.os.trans vBW.os, hset.2.tape.trans vBW.tape, hset.2.output.trans vBW.output, Nat.le_trans vBW.size hset.2.size, fun k hk => (hset.2.block k (by have := vBW.size; omega) (by omega)).trans (vBW.block k hk)⟩
          have HY := mkHid (And.intro y1 (And.intro hset.1 (And.intro yb (And.intro yT (And.intro yO hR)))))
          clear y1 hset yb yT yO hR k1 k2 vBW bVV hTo hTo2 hone r1 r2 hb hY bV b1
          dsimp only
          go_wp2_with fail
          exact ⟨⟨1, t0, t1, t2, t3, t4, t5, y0, y1, y2, y3, y4, y5, rfl, by omega, HY.out.1, HY.out.2.1, HY.out.2.2.1, fun _ => ⟨hlg, HY.out.2.2.2.2.2, HY.out.2.2.2.1⟩, fun h => (by omega)⟩, by decide⟩
    | 1, hi, HI =>
      have ci : ((1 : Nat) : Int) < 2 := by decide
      have hix := fun w => ix1 w o0 o1 l0.length l1.length c0 c1
      have st1 := st_StR wr (W.heap.size + 1) zS #[.int .i64 0, .int .i64 0, .int .i64 0, .int .i64 0, .slice none 0 0, .slice none 0 0] rfl rfl (by simp [Value.oneCell']) HI.out.1
      by_cases hlg : 67108864 < l1.length
      · have hlg2 : (67108864 : Int) < (l1.length : Int) := by omega
        obtain ⟨Y, hY⟩ : ∃ Y, wr.setRow (W.heap.size + 1) #[.int .i64 0, .int .i64 0, .int .i64 0, .int .i64 0, .slice none 0 0, .slice none 0 0] = Y := ⟨_, rfl⟩
        have yr : Y.heap[W.heap.size + 1]? = some (.cells zS 47 (0, 0)) := by rw [← hY]; exact setRow_heap _ _ _ _ _ _ HI.out.1
        have yb : Below W.heap.size W Y := by rw [← hY]; exact ⟨HI.out.2.2.1.os, HI.out.2.2.1.tape, HI.out.2.2.1.output, by rw [size_setRow]; exact HI.out.2.2.1.size, fun k hk => (setRow_other _ _ _ _ (by omega)).trans (HI.out.2.2.1.block k hk)⟩
        rw [hY] at st1
        have HY := mkHid (And.intro yr yb)
        clear yr yb hY
        go_wp2_with fail
        refine bodyPost_ret (results_Rp _ _ (W.heap.size + 1) zS _ _ _ rfl rfl rfl rfl rfl HY.out.1) rfl ?_
        refine ⟨HY.out.2, _, _, _, _, _, _, 1, 1, 0, rfl, ?_⟩
        rw [rep_long1 (HI.out.2.2.2.1 (Nat.le_refl _)).1 (HI.out.2.2.2.1 (Nat.le_refl _)).2.1 hlg]
        exact ⟨rfl, rfl, rfl, rfl⟩
      · have hlg2 : ¬ (67108864 : Int) < (l1.length : Int) := by omega
        have CF := readFile_any wr (fl := 1) (HF.out.2.1.below HI.out.2.2.1) (by omega) (HF.out.2.2.1.below HI.out.2.2.1 HF.out.2.2.1.sz)
        clear st1
        go_wp2_with fail
        refine CF.mono ?_
        rintro e w ⟨hb, t0, t1, t2, t3, t4, t5, sp, n, rfl, hTo, hone, hm⟩
        clear CF
        obtain ⟨V1, V2, s1, s2, r1, r2, bV, zV⟩ := two_world w #[t0, t1, t2, t3, t4, t5] #[.bool sp, .int .i64 (n : Int)] rfl rfl hone (by simp [Value.oneCell'])
        have wbz : wr.heap.size ≤ w.heap.size := hb.size
        have b0 : V2.cell? ⟨w.heap.size + 1, 0, none⟩ = some (.bool sp) := (cell_of_row _ _ _ _ _ _ r2).trans rfl
        have b1 : V2.cell? ⟨w.heap.size + 1, 1, none⟩ = some (.int .i64 (n : Int)) := (cell_of_row _ _ _ _ _ _ r2).trans rfl
        have bVV : Below wr.heap.size wr V2 := hb.trans (bV.mono hb.size)
        have vBW : Below W.heap.size W V2 := HI.out.2.2.1.trans (bVV.mono HI.out.2.2.1.size)
        have k1 : V2.heap[W.heap.size + 1]? = some (.cells zS 47 (0, 0)) := (bVV.block _ (by omega)).trans HI.out.1
        have k2 := (bVV.block _ hsz).trans HI.out.2.1
        have hTo2 := (hTo.mono HI.out.2.2.1.size).keep (stay_below bV)
        cases hR : (file crcN l1).2 with
        | some p =>
          rw [hR] at hm
          obtain ⟨rfl, rfl⟩ := hm
          have HY := mkHid (And.intro k1 (And.intro vBW (And.intro b1 zV)))
          clear hTo hTo2 k1 k2 vBW bVV bV b1 r1 r2 hone hb
          dsimp only
          go_upto_region 9 with fail
          rename_i K hK
          replace hK := mkHid hK
          refine wp_region_vals (ops := reg9r) (V := V9r (W.heap.size + 1) (w.heap.size + 1) n (errOf n) 1) (S := fun _ w' => But (W.heap.size + 1) V2 w' ∧ w'.heap[W.heap.size + 1]? = some (.cells zS 47 (0, 0))) (by kernel_rfl) (fun i o ho => (okR_at okR9r ho).1) (fun i j o oj d ho hj q1 q2 => (okR_at okR9r ho).2.2 j oj d hj q1 q2) (fun i o d ho q => (okR_at okR9r ho).2.1 d q)
            (step9r _ (W.heap.size + 1) (w.heap.size + 1) n (errOf n) 1 _ _ rfl rfl rfl (fun i _ listed X h => h) (fun listed X h _ _ _ => ?_) (fun listed X h _ _ _ => ⟨X, ?_, h⟩) (fun listed X h _ _ _ => ⟨X, ?_, h⟩) (fun listed X h _ _ _ => ⟨X, ?_, h⟩) (fun listed X h _ _ _ => ?_)) ?_ ?_
          · refine (spoiltErrno_any n X).mono ?_
            rintro e x ⟨rfl, rfl⟩
            exact ⟨rfl, h⟩
          · have : X.cell? ⟨w.heap.size + 1, 1, none⟩ = some (.int .i64 (n : Int)) := (World.cell?_of_block (w := V2) (a := ⟨w.heap.size + 1, 1, none⟩) (h.1.block (w.heap.size + 1) (by rw [HY.out.2.2.2]; omega) (by omega))).trans HY.out.2.2.1
            simp [go_sem, this]
          · have : X.cell? ⟨w.heap.size + 1, 1, none⟩ = some (.int .i64 (n : Int)) := (World.cell?_of_block (w := V2) (a := ⟨w.heap.size + 1, 1, none⟩) (h.1.block (w.heap.size + 1) (by rw [HY.out.2.2.2]; omega) (by omega))).trans HY.out.2.2.1
            simp [go_sem, this]
          · exact run_build X 47 _ _ (by kernel_rfl)
          · refine ⟨X.setRow (W.heap.size + 1) zS, st_StR X _ zS zS rfl rfl (by simp [zS, Value.oneCell']) h.2, ⟨h.1.os, h.1.tape, h.1.output, by rw [size_setRow]; exact h.1.size, fun k hk hn => (setRow_other _ _ _ _ hn).trans (h.1.block k hk hn)⟩, setRow_heap _ _ _ _ _ _ h.2⟩
          · exact ⟨⟨rfl, rfl, rfl, Nat.le_refl _, fun _ _ _ => rfl⟩, HY.out.1⟩
          · rintro x ⟨hb9, hr9⟩
            rw [put9r]
            refine hK.out _ _ ?_
            clear hK
            go_wp2_with fail
            refine bodyPost_ret (results_Rp _ _ (W.heap.size + 1) zS _ _ _ rfl rfl rfl rfl rfl hr9) rfl ?_
            refine ⟨⟨hb9.os.trans HY.out.2.1.os, hb9.tape.trans HY.out.2.1.tape, hb9.output.trans HY.out.2.1.output, Nat.le_trans HY.out.2.1.size hb9.size, fun k hk => (hb9.block k (by have := HY.out.2.1.size; omega) (by omega)).trans (HY.out.2.1.block k hk)⟩, _, _, _, _, _, _, errOf n, 1, n, rfl, ?_⟩
            rw [rep_bad1 (HI.out.2.2.2.1 (Nat.le_refl _)).1 (HI.out.2.2.2.1 (Nat.le_refl _)).2.1 hlg hR]
            exact ⟨rfl, rfl, rfl, rfl⟩
        | none =>
          rw [hR] at hm
          obtain rfl := hm
          have hL := ld_St V2 w.heap.size 0 #[t0, t1, t2, t3, t4, t5] rfl (range_row r1)
          have hS := st_St V2 (W.heap.size + 1 + 1) 6 #[t0, t1, t2, t3, t4, t5] rfl hone (ar_there k2).2
          have hset := ar_set1 t0 t1 t2 t3 t4 t5 k2
          rw [show (#[t0, t1, t2, t3, t4, t5] : Array Value).toList = [t0, t1, t2, t3, t4, t5] from rfl] at hS
          obtain ⟨Y, hY⟩ : ∃ Y, V2.setCells (W.heap.size + 1 + 1) 6 [t0, t1, t2, t3, t4, t5] = Y := ⟨_, rfl⟩
          rw [hY] at hS hset
          have yT := hTo2.keep (stay_ty k2 tys hset.2)
          have yO := fun (h : Okf W.heap.size 0 wr l0 x0 x1 x2 x3 x4 x5) => (h.keep (stay_below bVV)).keep (stay_ty k2 tys hset.2)
          have y1 : Y.heap[W.heap.size + 1]? = some (.cells zS 47 (0, 0)) := (hset.2.block _ (by have := (Array.getElem?_eq_some_iff.1 k2).1; omega) (by omega)).trans k1
          have yb : Below W.heap.size W Y := ⟨hset.2.os.trans vBW.os, hset.2.tape.trans vBW.tape, hset.2.output.trans vBW.output, Nat.le_trans vBW.size hset.2.size, fun k hk => (hset.2.block k (by have := vBW.size; omega) (by omega)).trans (vBW.block k hk)⟩
          have HY := mkHid (And.intro y1 (And.intro hset.1 (And.intro yb (And.intro yT (And.intro yO hR)))))
          clear y1 hset yb yT yO hR k1 k2 vBW bVV hTo hTo2 hone r1 r2 hb hY bV b1
          dsimp only
          go_wp2_with fail
          exact ⟨⟨2, x0, x1, x2, x3, x4, x5, t0, t1, t2, t3, t4, t5, rfl, by omega, HY.out.1, HY.out.2.1, HY.out.2.2.1, fun _ => HY.out.2.2.2.2.1 (HI.out.2.2.2.1 (Nat.le_refl _)), fun _ => ⟨hlg, HY.out.2.2.2.2.2, HY.out.2.2.2.1⟩⟩, by decide⟩
    | 2, hi, HI =>
      have ci : ¬ ((2 : Nat) : Int) < 2 := by decide
      obtain ⟨k1, k2, k3, k4, k5⟩ := HI.out
      have f0 := k4 (by omega)
      have f1 := k5 (by omega)
      have hd0 : Below wr.heap.size wr wr.drew := ⟨rfl, rfl, rfl, Nat.le_refl _, fun _ _ => rfl⟩
      have hrp := rep_pick f0.1 f0.2.1 f1.1 f1.2.1
      have ox := f0.2.2.one
      have oy := f1.2.2.one
      clear k4 k5
      replace hrp := mkHid hrp
      replace f0 := mkHid f0
      replace f1 := mkHid f1
      replace k1 := mkHid k1
      replace k2 := mkHid k2
      replace k3 := mkHid k3
      go_upto_region 12 with fail
      rename_i K hK
      replace hK := mkHid hK
      refine wp_region_fx (ops := reg12r) (J := JC (W.heap.size + 1 + 1) #[x0, x1, x2, x3, x4, x5] #[y0, y1, y2, y3, y4, y5] wr) (fun _ => undef) (by kernel_rfl) (fun i o ho => (okR_at okR12r ho).1) (fun i j o oj d ho hj q1 q2 => (okR_at okR12r ho).2.2 j oj d hj q1 q2) (fun i o d ho q => (okR_at okR12r ho).2.1 d q) (step12r _ _ rfl hsz rfl rfl ox oy (ar_range k2.out).1 (ar_range k2.out).2) ?_ ?_
      · exact ⟨fun h => by simp [size12r] at h, fun h => by simp [size12r] at h, fun h => by simp [size12r] at h, fun h => by simp [size12r] at h, fun h => by simp [size12r] at h, fun h => by simp [size12r] at h, fun h => by simp [size12r] at h, fun h => by simp [size12r] at h, fun h => by simp [size12r] at h, hd0⟩
      · intro X w hJ
        rw [put12r]
        rw [size12r] at hJ
        obtain ⟨b1, e1, q1, q2, -, q3⟩ := hJ.x4 rfl
        obtain ⟨b2, e2, p1, p2, -, p3⟩ := hJ.x5 rfl
        have r1 := q3 rfl
        have r2 := p3 rfl
        have wB := hJ.s
        rw [hJ.x0 rfl, hJ.x1 rfl, hJ.x2 rfl, hJ.x3 rfl, e1, e2]
        have a0 : w.cell? ⟨b1, 0, none⟩ = some x0 := (cell_of_row _ _ _ _ _ _ r1).trans rfl
        have a2 : w.cell? ⟨b1, 2, none⟩ = some x2 := (cell_of_row _ _ _ _ _ _ r1).trans rfl
        have d0 : w.cell? ⟨b2, 0, none⟩ = some y0 := (cell_of_row _ _ _ _ _ _ r2).trans rfl
        have d2 : w.cell? ⟨b2, 2, none⟩ = some y2 := (cell_of_row _ _ _ _ _ _ r2).trans rfl
        have wk1 := (wB.block _ (by omega)).trans k1.out
        have wb : Below W.heap.size W w := k3.out.trans (wB.mono k3.out.size)
        have g0 := f0.out.2.2.keep (stay_below wB)
        have g1 := f1.out.2.2.keep (stay_below wB)
        have L1 := ld_St w b1 0 #[x0, x1, x2, x3, x4, x5] rfl (range_row r1)
        have L2 := ld_St w b2 0 #[y0, y1, y2, y3, y4, y5] rfl (range_row r2)
        have S0 := st_StR w (W.heap.size + 1) zS #[.int .i64 0, .int .i64 0, .int .i64 0, .int .i64 0, .slice none 0 0, .slice none 0 0] rfl rfl (by simp [Value.oneCell']) wk1
        have S1 := st_StR w (W.heap.size + 1) zS #[x0, x1, x2, x3, x4, x5] rfl rfl ox wk1
        have S2 := st_StR w (W.heap.size + 1) zS #[y0, y1, y2, y3, y4, y5] rfl rfl oy wk1
        have HW := mkHid (And.intro wk1 wb)
        clear hJ e1 e2 q3 p3 r1 r2 wB wk1 wb ox oy
        unfold Told at g0 g1
        by_cases hl0 : (file crcN l0).1.live = true
        · have gen0 := file_gen hl0
          rw [if_pos hl0] at g0
          obtain ⟨z0, rfl, rfl, rfl, g04, g05⟩ := g0
          replace z0 : x0 = .int .i64 0 := z0
          subst z0
          by_cases hl1 : (file crcN l1).1.live = true
          · have gen1 := file_gen hl1
            rw [if_pos hl1] at g1
            obtain ⟨z1, rfl, rfl, rfl, g14, g15⟩ := g1
            replace z1 : y0 = .int .i64 1 := z1
            subst z1
            replace g04 := mkHid g04
            replace g05 := mkHid g05
            replace g14 := mkHid g14
            replace g15 := mkHid g15
            by_cases hge : (file crcN l0).1.gen = (file crcN l1).1.gen
            · have hb : (((file crcN l0).1.gen : Int) == ((file crcN l1).1.gen : Int)) = true := by rw [beq_int]; simp [hge]
              replace hge := mkHid hge
              have hq : rep l0 l1 = .err 112 1 0 := by rw [hrp.out]; unfold pick; rw [if_pos ⟨hl0, hl1, hge.out⟩]
              have AE := ans_end (X := .err 112 1 0) (c := #[.int .i64 0, .int .i64 0, .int .i64 0, .int .i64 0, .slice none 0 0, .slice none 0 0]) HW.out.2 HW.out.1 rfl 112 1 0 ⟨rfl, rfl, rfl, rfl⟩
              rw [← hq] at AE
              replace AE := mkHid AE
              clear hq
              refine hK.out _ _ ?_
              clear hK
              go_wp2_with fail
              refine bodyPost_ret (results_Rp _ _ (W.heap.size + 1) _ _ _ _ rfl rfl rfl rfl rfl AE.out.1) rfl ?_
              exact AE.out.2
            · have hb : (((file crcN l0).1.gen : Int) == ((file crcN l1).1.gen : Int)) = false := by rw [beq_int]; simp [hge]
              replace hge := mkHid hge
              by_cases hlt : (file crcN l0).1.gen < (file crcN l1).1.gen
              · have hlt2 : ((file crcN l0).1.gen : Int) < ((file crcN l1).1.gen : Int) := by omega
                replace hlt := mkHid hlt
                have hq : rep l0 l1 = .story 1 (file crcN l1).1 := by rw [hrp.out]; unfold pick; rw [if_neg (fun h => hge.out h.2.2), if_pos ⟨hl1, .inr hlt.out⟩]
                have AE := ans_end (X := .story 1 (file crcN l1).1) (c := #[.int .i64 1, .int .i64 ((file crcN l1).1.good : Int), .int .i64 ((file crcN l1).1.gen : Int), .int .i64 ((file crcN l1).1.first : Int), y4, y5]) HW.out.2 HW.out.1 rfl 0 0 0 ⟨⟨rfl, rfl, rfl, rfl, g14.out, g15.out⟩, rfl, rfl, rfl⟩
                rw [← hq] at AE
                replace AE := mkHid AE
                clear hq
                refine hK.out _ _ ?_
                clear hK
                go_wp2_with fail
                refine bodyPost_ret (results_Rp _ _ (W.heap.size + 1) _ _ _ _ rfl rfl rfl rfl rfl AE.out.1) rfl ?_
                exact AE.out.2
              · have hlt2 : ¬ ((file crcN l0).1.gen : Int) < ((file crcN l1).1.gen : Int) := by omega
                replace hlt := mkHid hlt
                have hq : rep l0 l1 = .story 0 (file crcN l0).1 := by rw [hrp.out]; unfold pick; rw [if_neg (fun h => hge.out h.2.2), if_neg (fun h => h.2.elim (fun h2 => by rw [hl0] at h2; cases h2) hlt.out), if_pos hl0]
                have AE := ans_end (X := .story 0 (file crcN l0).1) (c := #[.int .i64 0, .int .i64 ((file crcN l0).1.good : Int), .int .i64 ((file crcN l0).1.gen : Int), .int .i64 ((file crcN l0).1.first : Int), x4, x5]) HW.out.2 HW.out.1 rfl 0 0 0 ⟨⟨rfl, rfl, rfl, rfl, g04.out, g05.out⟩, rfl, rfl, rfl⟩
                rw [← hq] at AE
                replace AE := mkHid AE
                clear hq
                refine hK.out _ _ ?_
                clear hK
                go_wp2_with fail
                refine bodyPost_ret (results_Rp _ _ (W.heap.size + 1) _ _ _ _ rfl rfl rfl rfl rfl AE.out.1) rfl ?_
                exact AE.out.2
          · rw [if_neg hl1] at g1
            obtain ⟨rfl, rfl, rfl, rfl, rfl, rfl⟩ := g1
            replace g04 := mkHid g04
            replace g05 := mkHid g05
            have hlt2 : ¬ ((file crcN l0).1.gen : Int) < 0 := by omega
            have hq : rep l0 l1 = .story 0 (file crcN l0).1 := by rw [hrp.out]; unfold pick; rw [if_neg (fun h => hl1 h.2.1), if_neg (fun h => hl1 h.1), if_pos hl0]
            have AE := ans_end (X := .story 0 (file crcN l0).1) (c := #[.int .i64 0, .int .i64 ((file crcN l0).1.good : Int), .int .i64 ((file crcN l0).1.gen : Int), .int .i64 ((file crcN l0).1.first : Int), x4, x5]) HW.out.2 HW.out.1 rfl 0 0 0 ⟨⟨rfl, rfl, rfl, rfl, g04.out, g05.out⟩, rfl, rfl, rfl⟩
            rw [← hq] at AE
            replace AE := mkHid AE
            clear hq
            refine hK.out _ _ ?_
            clear hK
            go_wp2_with fail
            refine bodyPost_ret (results_Rp _ _ (W.heap.size + 1) _ _ _ _ rfl rfl rfl rfl rfl AE.out.1) rfl ?_
            exact AE.out.2
        · rw [if_neg hl0] at g0
          obtain ⟨rfl, rfl, rfl, rfl, rfl, rfl⟩ := g0
          by_cases hl1 : (file crcN l1).1.live = true
          · have gen1 := file_gen hl1
            rw [if_pos hl1] at g1
            obtain ⟨z1, rfl, rfl, rfl, g14, g15⟩ := g1
            replace z1 : y0 = .int .i64 1 := z1
            subst z1
            replace g14 := mkHid g14
            replace g15 := mkHid g15
            have hlt2 : (0 : Int) < ((file crcN l1).1.gen : Int) := by omega
            have hq : rep l0 l1 = .story 1 (file crcN l1).1 := by rw [hrp.out]; unfold pick; rw [if_neg (fun h => hl0 h.1), if_pos ⟨hl1, .inl (by simpa using hl0)⟩]
            have AE := ans_end (X := .story 1 (file crcN l1).1) (c := #[.int .i64 1, .int .i64 ((file crcN l1).1.good : Int), .int .i64 ((file crcN l1).1.gen : Int), .int .i64 ((file crcN l1).1.first : Int), y4, y5]) HW.out.2 HW.out.1 rfl 0 0 0 ⟨⟨rfl, rfl, rfl, rfl, g14.out, g15.out⟩, rfl, rfl, rfl⟩
            rw [← hq] at AE
            replace AE := mkHid AE
            clear hq
            refine hK.out _ _ ?_
            clear hK
            go_wp2_with fail
            refine bodyPost_ret (results_Rp _ _ (W.heap.size + 1) _ _ _ _ rfl rfl rfl rfl rfl AE.out.1) rfl ?_
            exact AE.out.2
          · rw [if_neg hl1] at g1
            obtain ⟨rfl, rfl, rfl, rfl, rfl, rfl⟩ := g1
            have hq : rep l0 l1 = .none := by rw [hrp.out]; unfold pick; rw [if_neg (fun h => hl0 h.1), if_neg (fun h => hl1 h.1), if_neg hl0]
            have AE := ans_end (X := .none) (c := #[.int .i64 (-1), .int .i64 0, .int .i64 0, .int .i64 0, .slice none 0 0, .slice none 0 0]) HW.out.2 HW.out.1 rfl 0 0 0 ⟨rfl, rfl, rfl, rfl⟩
            rw [← hq] at AE
            replace AE := mkHid AE
            clear hq
            refine hK.out _ _ ?_
            clear hK
            go_wp2_with fail
            refine bodyPost_ret (results_Rp _ _ (W.heap.size + 1) _ _ _ _ rfl rfl rfl rfl rfl AE.out.1) rfl ?_
            exact AE.out.2
end Go.Proofs.YtfimaflglnemdaaDoor
