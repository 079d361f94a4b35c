/- Several texts in one: Rw1, Rw2, Rw3, Rw4, Rw5, Rw6. -/
import Derived.Test.YtceaklefdahfkabSv3
import Derived.Test.YtceaklefdahfkabFnJ
import Derived.Test.YtceaklefdahfkabSv9
import Derived.Lib.AppendZerosOnto
import Derived.BigRegion
import Derived.Deep.RegionHeld3
import Derived.Deep.RegionWith
import Derived.Deep.DrawnRows
import Derived.Test.YtceaklefdahfkabFn5
/- The sieve's scanner within a greater object: Feed. -/
namespace Go.Proofs.Ytceaklefdahfkab
open Go.RowKit
/-- A scanner at the head of a block. -/
def Scg (X : List Value) (ty gs gt s n h : Nat) (w : World) : Prop := w.heap[gs]? = some (.cells (.pointer (some ⟨gt, 0, none⟩) :: .int .i32 (s : Int) :: .int .i64 (n : Int) :: .int .i64 (h : Int) :: X).toArray ty (0, 0))
theorem sg0 (a b c d : Value) (X : List Value) : (a :: b :: c :: d :: X).toArray[0]? = some a := by simp
theorem sg1 (a b c d : Value) (X : List Value) : (a :: b :: c :: d :: X).toArray[1]? = some b := by simp
theorem sg2 (a b c d : Value) (X : List Value) : (a :: b :: c :: d :: X).toArray[2]? = some c := by simp
theorem sg3 (a b c d : Value) (X : List Value) : (a :: b :: c :: d :: X).toArray[3]? = some d := by simp
theorem ss1 (a b c d v : Value) (X : List Value) : (a :: b :: c :: d :: X).toArray.setIfInBounds 1 v = (a :: v :: c :: d :: X).toArray := by simp
theorem ss2 (a b c d v : Value) (X : List Value) : (a :: b :: c :: d :: X).toArray.setIfInBounds 2 v = (a :: b :: v :: d :: X).toArray := by simp
theorem ss3 (a b c d v : Value) (X : List Value) : (a :: b :: c :: d :: X).toArray.setIfInBounds 3 v = (a :: b :: c :: v :: X).toArray := by simp
attribute [local go_sem ↓] toApp
set_option maxRecDepth 100000 in
set_option maxHeartbeats 3200000 in
theorem feed_gen (X : List Value) (ty gs gt : Nat) (t : Tbl) (hw : Wk t) (G : Nat → Prop) (hG : Gd t G) (s0 n0 h0 : Nat) (hs0 : G s0) (hn0 : n0 ≤ 1152921504606846976) (p : List Nat) (hpb : Byt p) (hpl : p.length ≤ 1099511627776) (pv : Value) (w : World) (hsc : Scg X ty gs gt s0 n0 h0 w) (htk : TabK gs gt t w) (hp : Si .u8 pv p w) :
    Calls Try.prog 21 #[.pointer (some ⟨gs, 0, none⟩), pv] w fun e w' => ∃ v, e = .returned v ∧ w'.ownsRow w.heap.size 39 2 v (fnd t s0 n0 p).length (hc (fnd t s0 n0 p)) ∧ Scg X ty gs gt (rn t s0 p) (n0 + p.length) (t.depths.getD (rn t s0 p) 0) w' ∧
      w'.os = w.os ∧ w'.tape = w.tape ∧ w'.output = w.output ∧ w.heap.size ≤ w'.heap.size ∧ ∀ j, j < w.heap.size → j ≠ gs → w'.heap[j]? = w.heap[j]? := by
  have c0 : w.cell? ⟨gs, 0, none⟩ = some (.pointer (some ⟨gt, 0, none⟩)) := (cell_of_row w gs 0 _ _ _ hsc).trans (sg0 _ _ _ _ _)
  have c1 : w.cell? ⟨gs, 1, none⟩ = some (.int .i32 (s0 : Int)) := (cell_of_row w gs 1 _ _ _ hsc).trans (sg1 _ _ _ _ _)
  obtain ⟨po, pc, rfl, _, _, hp3⟩ := hp.form
  have HP : Hid (0 < p.length → ∃ b off, po = some ⟨b, off, none⟩ ∧ b < w.heap.size ∧ ∀ j, j < p.length → w.cell? ⟨b, off + j, none⟩ = some (.int .u8 ((p.getD j 0 : Nat) : Int))) := hp3
  have hne : gs ≠ gt := by have := htk.1; omega
  have HTK : Hid (TabK gs gt t w) := htk
  have HT : Hid (Tab gt t w) := htk.tab
  have HS : Hid (Scg X ty gs gt s0 n0 h0 w) := hsc
  have HW : Hid (Wk t) := hw
  have HG : Hid (Gd t G) := hG
  have HPB : Hid (Byt p) := hpb
  clear hsc htk hp hp3 hw hG hpb
  go_enter Try.func21, Try.ntmps21
  go_wp2_with fail
  go_quiet (fail)
  go_wp2_with fail
  have HB0 : Hid (Below w.heap.size w (w.drewN nq)) := Below.drewN' (Below.refl _ w) nq
  have HO0 : Hid ((w.drewN nq).ownsRow w.heap.size 39 2 (.slice none 0 0) 0 (hc (fnd t s0 n0 (p.take 0)))) := World.ownsRow_nil _ _ _ _
  have HG0 : Hid (G s0) := hs0
  go_loopw [5, 7, 31] (fun hv sv iv wr => ∃ (k s : Nat), iv = .int .i64 (k : Int) ∧ k ≤ p.length ∧ sv = .int .i32 (s : Int) ∧ Hid (s = rn t s0 (p.take k)) ∧ Hid (wr.ownsRow w.heap.size 39 2 hv (fnd t s0 n0 (p.take k)).length (hc (fnd t s0 n0 (p.take k)))) ∧ Hid (Below w.heap.size w wr) ∧ Hid (G s)) (fun _ _ iv _ => p.length - (intOf iv).toNat)
  case atStart => exact ⟨0, s0, rfl, by omega, rfl, by show _ = _; rw [List.take_zero]; rfl, HO0, HB0, HG0⟩
  case round =>
    clear HB0 HO0 HG0
    obtain ⟨k, s, rfl, hk, rfl, HRN, HO, HB, HGs⟩ := hrel
    by_cases hlt : k < p.length
    · have hk0 : (0 : Int) ≤ (k : Int) := by omega
      have hk1 : (k : Int) < (p.length : Int) := by omega
      obtain ⟨b, off, rfl, hbz, hcp⟩ := HP.out (by omega)
      have cp : wr.cell? ⟨b, off + k, none⟩ = some (.int .u8 ((p.getD k 0 : Nat) : Int)) := (World.cell?_of_block (w := w) (HB.out.block b hbz)).trans (hcp k hlt)
      have hcb : p.getD k 0 < 256 := by
        have : p.getD k 0 = p[k] := by simp [List.getD, hlt]
        rw [this]; exact HPB.out _ (List.getElem_mem hlt)
      have HR1 : Hid (rn t s0 (p.take (k + 1)) = (stp t s (p.getD k 0)).1 ∧ fnd t s0 n0 (p.take (k + 1)) = fnd t s0 n0 (p.take k) ++ (match (stp t s (p.getD k 0)).2 with | some x => [(((n0 + k : Nat) : Int) + 1 - (t.width : Int), (x : Int))] | none => [])) := by
        have e : (p.take k).length = k := by rw [List.length_take]; omega
        refine ⟨?_, ?_⟩
        · rw [take_snoc hlt, rn_app, ← HRN.out]; rfl
        · rw [take_snoc hlt, fnd_app, ← HRN.out, e]
          congr 1
          rw [fnd, fnd, List.append_nil]
          cases (stp t s (p.getD k 0)).2 <;> rfl
      revert cp hcb HR1
      generalize p.getD k 0 = c
      intro cp hcb HR1
      have TR : Hid (Tab gt t wr) := by
        obtain ⟨vl, vd, vf, vb, vr, vv, q0, q1, q2, q3, q4, q5, q6⟩ := HT.out
        have q := HT.out.below (HB.out)
        exact q
      have hsle := HG.out.le s HGs.out
      have CN : Hid (Calls Try.prog 55 #[.pointer (some ⟨gt, 0, none⟩), .int .i32 (s : Int), .int .u8 (c : Int)] wr fun e w' => e = .returned (.int .i32 ((nx t c (s + 1) s : Nat) : Int)) ∧ ∃ q, w' = wr.drewN q) := next_any gt t HW.out.bd HW.out.lb c hcb s hsle HW.out.r0 HW.out.l0 (HG.out.nw s HGs.out) wr TR.out
      have hn1 := HG.out.n1 s c HGs.out hcb
      have HH := HG.out.hit s c HGs.out hcb
      have HGo := stp_good HG.out HGs.out hcb
      have HST : Hid (stp t s c = if t.firsts.length - 1 ≤ nx t c (s + 1) s then (t.backs.getD (nx t c (s + 1) s) 0, some (t.values.getD (nx t c (s + 1) s - (t.firsts.length - 1)) 0)) else (nx t c (s + 1) s, none)) := rfl
      have CW0 : Hid (∀ W, Tab gt t W → Calls Try.prog 56 #[.pointer (some ⟨gt, 0, none⟩), .int .i32 ((nx t c (s + 1) s : Nat) : Int)] W fun e w' => e = .returned (wdV t (nx t c (s + 1) s)) ∧ w' = W) := fun W h => word_any gt t HW.out.f1 HW.out.bd _ hn1 (fun h => (HH h).1) W h
      unfold wdV at CW0
      have HHH : Hid (t.firsts.length - 1 ≤ nx t c (s + 1) s → nx t c (s + 1) s < t.backs.length) := fun h => (HH h).2.1
      have HGO : Hid (G (stp t s c).1) := HGo
      clear HH HGo
      revert CN hn1 HST CW0 HHH
      generalize nx t c (s + 1) s = s1
      intro CN hn1 HST CW0 HHH
      go_wp2_with fail
      refine Calls.mono CN.out ?_
      rintro e W ⟨rfl, q, hWq⟩
      have HBW : Hid (Below w.heap.size w W) := by rw [hWq]; exact Below.drewN' HB.out q
      have HOW : Hid (W.ownsRow w.heap.size 39 2 u5 (fnd t s0 n0 (p.take k)).length (hc (fnd t s0 n0 (p.take k)))) := by rw [hWq]; exact own_keep2 HO.out fun _ _ => rfl
      clear hWq cp CN HO HB TR
      have TW : Hid (Tab gt t W) := HT.out.below HBW.out
      by_cases hh : t.firsts.length - 1 ≤ s1
      · simp only [if_pos hh] at CW0 HST
        have hsb := HHH.out hh
        obtain ⟨x, hx⟩ : ∃ x, x = t.values.getD (s1 - (t.firsts.length - 1)) 0 := ⟨_, rfl⟩
        obtain ⟨B0, hB0⟩ : ∃ B0, B0 = t.backs.getD s1 0 := ⟨_, rfl⟩
        rw [← hx] at CW0 HST
        rw [← hB0] at HST
        rw [HST.out] at HR1 HGO
        obtain ⟨D, hD⟩ : ∃ D, W.drew = D := ⟨_, rfl⟩
        have HBD : Hid (Below w.heap.size w D) := by rw [← hD]; exact HBW.out.trans (Below.refl _ W).drew
        have HOD : D.ownsRow w.heap.size 39 2 u5 (fnd t s0 n0 (p.take k)).length (hc (fnd t s0 n0 (p.take k))) := by rw [← hD]; exact own_keep2 HOW.out fun _ _ => rfl
        obtain ⟨X, hX⟩ : ∃ X : Int, X = ((n0 + k : Nat) : Int) + 1 - (t.width : Int) := ⟨_, rfl⟩
        have hfl : (fnd t s0 n0 (p.take k)).length ≤ k := by have := fnd_len t s0 n0 (p.take k); rw [List.length_take] at this; omega
        obtain ⟨v', W2, rW, oW, gW⟩ := run_app1h D w.heap.size _ 31 u5 _ X (x : Int) HOD (by omega) HBD.out.size
        obtain ⟨ou, cu, rfl⟩ := own_size HOD
        have HB2 : Hid (Below w.heap.size w W2) := by
          have hz := HBD.out.size
          refine HBD.out.trans ⟨by rw [gW.os]; rfl, by rw [gW.tape]; rfl, by rw [gW.output]; rfl, by have := gW.size; simp at this; omega, fun j hj => ?_⟩
          rw [gW.block j (by simp; omega) (fun e => by have := (HOD.lt j e.symm).1; omega), heap_alloc_old _ _ (h := by omega)]
        have HO2 : Hid (W2.ownsRow w.heap.size 39 2 v' (fnd t s0 n0 (p.take (k + 1))).length (hc (fnd t s0 n0 (p.take (k + 1))))) := by
          have e : fnd t s0 n0 (p.take (k + 1)) = fnd t s0 n0 (p.take k) ++ [(X, (x : Int))] := by rw [HR1.out.2, hX]
          show World.ownsRow _ _ _ _ _ _ _
          rw [e, List.length_append, List.length_singleton]
          exact oW
        have gz : gs < w.heap.size := (Array.getElem?_eq_some_iff.1 HS.out).1
        have d2 : D.cell? ⟨gs, 2, none⟩ = some (.int .i64 (n0 : Int)) := (World.cell?_of_block (w := w) (HBD.out.block gs gz)).trans ((cell_of_row w gs 2 _ _ _ HS.out).trans (sg2 _ _ _ _ _))
        have TD := HT.out.below HBD.out
        have T2 := HT.out.below HB2.out
        obtain ⟨_, _, _, _, _, _, rT, _⟩ := TD
        have dw : D.cell? ⟨gt, 0, none⟩ = some (.int .i64 (t.width : Int)) := (cell_of_row D gt 0 _ _ _ rT).trans rfl
        obtain ⟨_, _, _, vb2, _, _, rT2, _, _, _, hb4, _⟩ := T2
        obtain ⟨ob, cb, rfl, _, _, hb5⟩ := hb4.form
        obtain ⟨bb, offb, rfl, _, hb6⟩ := hb5 (by omega)
        have e4 : W2.cell? ⟨gt, 4, none⟩ = some (.slice (some ⟨bb, offb, none⟩) t.backs.length cb) := (cell_of_row W2 gt 4 _ _ _ rT2).trans rfl
        have e5 : W2.cell? ⟨bb, offb + s1, none⟩ = some (.int .i32 (B0 : Int)) := by rw [hb6 s1 hsb, hB0]
        obtain ⟨A1, hA1⟩ : ∃ A1, A1 = n0 + k := ⟨_, rfl⟩
        obtain ⟨A2, hA2⟩ : ∃ A2, A2 = A1 + 1 := ⟨_, rfl⟩
        have hwd := HW.out.wd
        have f1 : (n0 : Int) + (k : Int) = (A1 : Int) := by omega
        have f2 : (A1 : Int) + 1 = (A2 : Int) := by omega
        have f3 : IntKind.i64.wrap ((A2 : Int) - (t.width : Int)) = X := by rw [wi _ (by unfold I64; omega)]; omega
        have g1 : (A1 : Int) < 9223372036854775808 := by omega
        have g2 : (A2 : Int) < 9223372036854775808 := by omega
        have hs1 : (0 : Int) ≤ (s1 : Int) := by omega
        have hs2 : (s1 : Int) < (t.backs.length : Int) := by omega
        have HR2 : Hid (B0 = rn t s0 (p.take (k + 1))) := HR1.out.1.symm
        clear hX hA1 hA2 hx hB0 HOD oW gW rT rT2 hb4 hb5 hb6 hh HST HHH
        go_wp2_with fail
        refine Calls.mono (CW0.out W TW.out) ?_
        rintro e W' ⟨rfl, rfl⟩
        go_wp2_with fail
        go_region
        go_wp2
        exact ⟨⟨k + 1, B0, by rfl, by omega, rfl, HR2, HO2, HB2, HGO⟩, by simp only [intOf]; omega⟩
      · simp only [if_neg hh] at CW0 HST
        go_wp2_with fail
        refine Calls.mono (CW0.out W TW.out) ?_
        rintro e W' ⟨rfl, rfl⟩
        rw [HST.out] at HR1 HGO
        have HR2 : Hid (s1 = rn t s0 (p.take (k + 1))) := HR1.out.1.symm
        have HO2 : Hid (W'.ownsRow w.heap.size 39 2 u5 (fnd t s0 n0 (p.take (k + 1))).length (hc (fnd t s0 n0 (p.take (k + 1))))) := by
          have e : fnd t s0 n0 (p.take (k + 1)) = fnd t s0 n0 (p.take k) := by rw [HR1.out.2]; simp
          show World.ownsRow _ _ _ _ _ _ _
          rw [e]; exact HOW.out
        clear HOW HR1 HST hh
        go_wp2
        exact ⟨⟨k + 1, s1, by rfl, by omega, rfl, HR2, HO2, HBW, HGO⟩, by simp only [intOf]; omega⟩
    · have hk1 : ¬ ((k : Int) < (p.length : Int)) := by omega
      have hke : k = p.length := by omega
      subst hke
      rw [List.take_length] at HRN HO
      have gz : gs < w.heap.size := (Array.getElem?_eq_some_iff.1 HS.out).1
      have R0 : wr.heap[gs]? = some (.cells (.pointer (some ⟨gt, 0, none⟩) :: .int .i32 (s0 : Int) :: .int .i64 (n0 : Int) :: .int .i64 (h0 : Int) :: X).toArray ty (0, 0)) := (HB.out.block gs gz).trans HS.out
      have x1 : wr.cell? ⟨gs, 1, none⟩ = some (.int .i32 (s0 : Int)) := (cell_of_row wr gs 1 _ _ _ R0).trans (sg1 _ _ _ _ _)
      have y1 : wr.frozen? ⟨gs, 1, none⟩ = false := frozen_of_row wr _ _ _ _ R0
      obtain ⟨W1, hW1⟩ : ∃ W1, wr.setCell ⟨gs, 1, none⟩ (.int .i32 (s : Int)) = W1 := ⟨_, rfl⟩
      have R1 : W1.heap[gs]? = some (.cells (.pointer (some ⟨gt, 0, none⟩) :: .int .i32 (s : Int) :: .int .i64 (n0 : Int) :: .int .i64 (h0 : Int) :: X).toArray ty (0, 0)) := by rw [← hW1]; exact (heap_setCell_same _ _ _ _ _ _ R0).trans (by rw [ss1])
      have x2 : W1.cell? ⟨gs, 2, none⟩ = some (.int .i64 (n0 : Int)) := (cell_of_row W1 gs 2 _ _ _ R1).trans (sg2 _ _ _ _ _)
      have y2 : W1.frozen? ⟨gs, 2, none⟩ = false := frozen_of_row W1 _ _ _ _ R1
      obtain ⟨n1, hn1⟩ : ∃ n1, n1 = n0 + p.length := ⟨_, rfl⟩
      have f1 : (n0 : Int) + (p.length : Int) = (n1 : Int) := by omega
      have g1 : (n1 : Int) < 9223372036854775808 := by omega
      obtain ⟨W2, hW2⟩ : ∃ W2, W1.setCell ⟨gs, 2, none⟩ (.int .i64 (n1 : Int)) = W2 := ⟨_, rfl⟩
      have R2 : W2.heap[gs]? = some (.cells (.pointer (some ⟨gt, 0, none⟩) :: .int .i32 (s : Int) :: .int .i64 (n1 : Int) :: .int .i64 (h0 : Int) :: X).toArray ty (0, 0)) := by rw [← hW2]; exact (heap_setCell_same _ _ _ _ _ _ R1).trans (by rw [ss2])
      have x3 : W2.cell? ⟨gs, 3, none⟩ = some (.int .i64 (h0 : Int)) := (cell_of_row W2 gs 3 _ _ _ R2).trans (sg3 _ _ _ _ _)
      have y3 : W2.frozen? ⟨gs, 3, none⟩ = false := frozen_of_row W2 _ _ _ _ R2
      have oth : ∀ j, j ≠ gs → W2.heap[j]? = wr.heap[j]? := fun j hj => by rw [← hW2, heap_setCell_other _ _ _ _ hj, ← hW1, heap_setCell_other _ _ _ _ hj]
      have z2 : W2.heap.size = wr.heap.size := by rw [← hW2, ← hW1]; simp [World.setCell]
      obtain ⟨_, vl, vd, vf, vb, vr, vv, q0, ⟨_, q2, _⟩, q7⟩ := HTK.out
      have hbk := q7 vd (by simp)
      obtain ⟨od, cd, rfl, _, _, hd3⟩ := q2.form
      have hsd := HG.out.dp s HGs.out
      obtain ⟨bd, offd, rfl, hbdz, hd4⟩ := hd3 (by omega)
      have gtz : gt < w.heap.size := (Array.getElem?_eq_some_iff.1 q0).1
      have kt : W2.cell? ⟨gt, 2, none⟩ = some (.slice (some ⟨bd, offd, none⟩) t.depths.length cd) := by
        rw [World.cell?_of_block (w := w) ((oth gt (Ne.symm hne)).trans (HB.out.block gt gtz))]
        exact (cell_of_row w gt 2 _ _ _ q0).trans rfl
      have hbg : bd ≠ gs := by have := hbk bd rfl; omega
      have kd : W2.cell? ⟨bd, offd + s, none⟩ = some (.int .u8 ((t.depths.getD s 0 : Nat) : Int)) := by
        rw [World.cell?_of_block (w := w) ((oth bd hbg).trans (HB.out.block bd hbdz))]
        exact hd4 s hsd
      obtain ⟨dp, hdp⟩ : ∃ dp, dp = t.depths.getD s 0 := ⟨_, rfl⟩
      rw [← hdp] at kd
      have hdb : dp < 256 := by
        have : t.depths.getD s 0 = t.depths[s] := by simp [List.getD, hsd]
        rw [hdp, this]; exact HW.out.db _ (List.getElem_mem hsd)
      have hdb1 : (dp : Int) < 256 := by omega
      have hs1 : (0 : Int) ≤ (s : Int) := by omega
      have hs2 : (s : Int) < (t.depths.length : Int) := by omega
      have POST : Hid ((W2.setCell ⟨gs, 3, none⟩ (.int .i64 (dp : Int))).ownsRow w.heap.size 39 2 u5 (fnd t s0 n0 p).length (hc (fnd t s0 n0 p)) ∧ Scg X ty gs gt (rn t s0 p) (n0 + p.length) (t.depths.getD (rn t s0 p) 0) (W2.setCell ⟨gs, 3, none⟩ (.int .i64 (dp : Int))) ∧
          (W2.setCell ⟨gs, 3, none⟩ (.int .i64 (dp : Int))).os = w.os ∧ (W2.setCell ⟨gs, 3, none⟩ (.int .i64 (dp : Int))).tape = w.tape ∧ (W2.setCell ⟨gs, 3, none⟩ (.int .i64 (dp : Int))).output = w.output ∧ w.heap.size ≤ (W2.setCell ⟨gs, 3, none⟩ (.int .i64 (dp : Int))).heap.size ∧ ∀ j, j < w.heap.size → j ≠ gs → (W2.setCell ⟨gs, 3, none⟩ (.int .i64 (dp : Int))).heap[j]? = w.heap[j]?) := by
        have oth3 : ∀ j, j ≠ gs → (W2.setCell ⟨gs, 3, none⟩ (.int .i64 (dp : Int))).heap[j]? = wr.heap[j]? := fun j hj => (heap_setCell_other _ _ _ _ hj).trans (oth j hj)
        refine ⟨own_keep2 HO.out fun j hj => oth3 j (by have := (HO.out.lt j hj).1; omega), ?_, ?_, ?_, ?_, ?_, fun j hj hn => (oth3 j hn).trans (HB.out.block j hj)⟩
        · unfold Scg
          rw [← HRN.out, ← hdp, ← hn1]
          exact (heap_setCell_same _ _ _ _ _ _ R2).trans (by rw [ss3])
        · show W2.os = _; rw [← hW2]; show W1.os = _; rw [← hW1]; exact HB.out.os
        · show W2.tape = _; rw [← hW2]; show W1.tape = _; rw [← hW1]; exact HB.out.tape
        · show W2.output = _; rw [← hW2]; show W1.output = _; rw [← hW1]; exact HB.out.output
        · have := HB.out.size; simp [World.setCell]; omega
      clear R0 R1 R2 oth z2 q0 q2 q7 hd3 hd4 hn1 hdp HO HRN
      go_wp2
      go_ret
      exact ⟨_, rfl, POST.out⟩
end Go.Proofs.Ytceaklefdahfkab

/- The sieve: slices.Grow, Concat, Clone. -/
namespace Go.Proofs.Ytceaklefdahfkab
open Go.RowKit
def apP (ty : Nat) (vs : Array Value) : Sem Value := Builtin.append_ #[23, 23] ty vs
theorem toApP (ty : Nat) (vs : Array Value) : Builtin.append_ #[23, 23] ty vs = apP ty vs := rfl
def apZ (ty : Nat) (vs : Array Value) : Sem Value := Builtin.append_ #[23, 3] ty vs
theorem toApZ (ty : Nat) (vs : Array Value) : Builtin.append_ #[23, 3] ty vs = apZ ty vs := rfl
theorem grown_below {w w' : World} {base n s e : Nat} {v : Value} {xs : List Value} (ho : w.ownsRow base e s v n xs) (hB : base ≤ w.heap.size) (hg : w.grownBy w' v.ownBlock) : Below base w w' :=
  ⟨hg.os, hg.tape, hg.output, hg.size, fun k hk => hg.block k (by omega) (fun e => by have := (ho.lt k e.symm).1; omega)⟩
/-- Bytes appended to bytes of one's own. -/
theorem run_apP (w : World) (base n ty : Nat) (v : Value) (l e : List Nat) (sv : Value) (ho : w.ownsRow base 5 1 v n (ik .u8 l).toList) (hs : Si .u8 sv e w) (hb : n + e.length ≤ 1099511627776) (hB : base ≤ w.heap.size) :
    ∃ v' w', (apP ty #[v, sv]).run Try.prog w = .ok v' w' ∧ w'.ownsRow base 5 1 v' (n + e.length) (ik .u8 (l ++ e)).toList ∧ Below base w w' := by
  obtain ⟨i0, hi0, hz0, hz1, hz2⟩ := info_parts info5
  rcases hs with ⟨rfl, rfl⟩ | ⟨b, off, c, rfl, h2, h3, h4, h5⟩
  · refine ⟨v, w, run_append_owned_none (P := Try.prog) w base 23 ty 5 i0 1 Try.underlying23 hi0 _ n _ ho, ?_, Below.refl _ _⟩
    rw [List.append_nil]; exact ho
  · obtain ⟨v', w', hr, ho2, hg, _⟩ := run_append_own (P := Try.prog) w base 23 ty 5 i0 _ 1 1 Try.underlying23 hi0 hz0 hz1 hz2 rfl (by omega) v n _ ho ⟨b, off, none⟩ e.length c (ik .u8 e).toList (by simp [ik]) (fun j u hu => by
        have hj : j < e.length := by have := (List.getElem?_eq_some_iff.1 hu).1; simpa [ik] using this
        rw [Array.getElem?_toList, ik_get _ _ j hj] at hu
        rw [← Option.some.inj hu, Go.WideShapes.add_plain]
        exact h5 j hj) (fun u hu => by
        have := ik_one .u8 e
        rw [Array.all_eq_true] at this
        obtain ⟨j, hj, rfl⟩ := List.getElem_of_mem hu
        simp only [Array.length_toList] at hj
        exact this j hj) (by unfold maxLen; omega) (by omega) hB
    have e : (ik .u8 l).toList ++ (ik .u8 e).toList = (ik .u8 (l ++ e)).toList := by simp [ik]
    rw [e] at ho2
    exact ⟨v', w', hr, ho2, grown_below ho hB hg⟩
set_option maxRecDepth 100000 in
theorem run_zeros (w : World) (ty n : Nat) (h0 : 0 < n) (hn : n ≤ 1099511627776) : ∃ c w', (apZ ty #[.slice none 0 0, .int .i64 (n : Int)]).run Try.prog w = .ok (.slice (some ⟨w.heap.size, 0, none⟩) n c) w' ∧ w'.ownsRow w.heap.size 5 1 (.slice (some ⟨w.heap.size, 0, none⟩) 0 c) 0 (ik .u8 []).toList ∧ Below w.heap.size w w' := by
  obtain ⟨i0, hi0, hz0, hz1, hz2⟩ := info_parts info5
  have hc : Builtin.nextslicecap n 0 = n := by unfold Builtin.nextslicecap; rw [if_pos (by omega)]
  have hr := Lib.run_append_grow_zeros (P := Try.prog) w 23 3 ty 5 i0 (.int .u8 0) .i64 .i64 Try.underlying23 (by kernel_rfl) hi0 hz0 none 0 0 [] (by simp [Builtin.firstCells]) n h0 (by omega) (by omega) (by omega) (by rw [hz2]; omega) (by rw [Nat.zero_add, hc, hz2]; omega)
  simp only [Nat.zero_add] at hr
  have hge := grownCap_ge w n 0 5
  have hle := grownCap_le_maxLen w n 0 5 (by unfold maxLen; omega)
  generalize grownCap w n 0 5 = c at hr hge hle
  refine ⟨c, _, hr, ⟨rfl, .inr ⟨w.heap.size, c, _, rfl, Nat.le_refl _, heap_alloc_new w.drew _, by omega, hle, ?_, by simp [ik]⟩⟩, ?_⟩
  · simp [Builtin.zeroCells, Value.cells]
    omega
  · exact ((Below.refl _ w).drew).alloc (Nat.le_refl _) _
attribute [local go_sem ↓] toApP toApZ
set_option maxRecDepth 100000 in
theorem grow_any (n : Nat) (hn : n ≤ 1099511627776) (w : World) : Calls Try.prog 92 #[.slice none 0 0, .int .i64 (n : Int)] w fun e w' => ∃ v, e = .returned v ∧ w'.ownsRow w.heap.size 5 1 v 0 (ik .u8 []).toList ∧ Below w.heap.size w w' := by
  by_cases h0 : 0 < n
  · obtain ⟨c, W, r, ho, hb⟩ := run_zeros w 23 n h0 hn
    have H : Hid _ := And.intro ho hb
    clear ho hb
    have h1 : ¬ ((n : Int) < 0) := by omega
    have h2 : (0 : Int) < (n : Int) := by omega
    go_enter Try.func92, Try.ntmps92
    go_wp2
    go_ret
    exact ⟨_, rfl, H.out⟩
  · have : n = 0 := by omega
    subst this
    go_enter Try.func92, Try.ntmps92
    go_wp2
    go_ret
    exact ⟨_, rfl, World.ownsRow_nil _ _ _ _, Below.refl _ _⟩
def apLs (ty : Nat) (vs : Array Value) : Sem Value := Builtin.append_ #[22, 22] ty vs
theorem toApLs (ty : Nat) (vs : Array Value) : Builtin.append_ #[22, 22] ty vs = apLs ty vs := rfl
/-- Texts appended to texts of one's own. -/
theorem run_apLs (w : World) (base n ty : Nat) (v : Value) (l e : List ByteArray) (sv : Value) (ho : w.ownsRow base 9 1 v n (sk l).toList) (hs : St sv e w) (hb : n + e.length ≤ 1073741824) (hB : base ≤ w.heap.size) :
    ∃ v' w', (apLs ty #[v, sv]).run Try.prog w = .ok v' w' ∧ w'.ownsRow base 9 1 v' (n + e.length) (sk (l ++ e)).toList ∧ Below base w w' := by
  obtain ⟨i0, hi0, hz0, hz1, hz2⟩ := info_parts info9
  rcases hs with ⟨rfl, rfl⟩ | ⟨b, off, c, rfl, h2, h3, h4, h5⟩
  · refine ⟨v, w, run_append_owned_none (P := Try.prog) w base 22 ty 9 i0 1 Try.underlying22 hi0 _ n _ ho, ?_, Below.refl _ _⟩
    rw [List.append_nil]; exact ho
  · obtain ⟨v', w', hr, ho2, hg, _⟩ := run_append_own (P := Try.prog) w base 22 ty 9 i0 _ 1 16 Try.underlying22 hi0 hz0 hz1 hz2 rfl (by omega) v n _ ho ⟨b, off, none⟩ e.length c (sk e).toList (by simp [sk]) (fun j u hu => by
        have hj : j < e.length := by have := (List.getElem?_eq_some_iff.1 hu).1; simpa [sk] using this
        rw [Array.getElem?_toList, sk_get _ j hj] at hu
        rw [← Option.some.inj hu, Go.WideShapes.add_plain]
        exact h5 j _ (txt_get hj)) (fun u hu => by
        simp [sk] at hu
        obtain ⟨s, _, rfl⟩ := hu
        rfl) (by unfold maxLen; omega) (by omega) hB
    have e : (sk l).toList ++ (sk e).toList = (sk (l ++ e)).toList := by simp [sk]
    rw [e] at ho2
    exact ⟨v', w', hr, ho2, grown_below ho hB hg⟩
theorem own_new {w : World} {base e s n : Nat} {v : Value} {xs : List Value} (h : w.ownsRow base e s v n xs) : ∀ k, v.ownBlock = some k → base ≤ k := fun k hk => (h.lt k hk).1
attribute [local go_sem ↓] toApLs
set_option maxRecDepth 100000 in
theorem clone_any (l : List ByteArray) (hl : l.length ≤ 1048576) (v : Value) (w : World) (hv : St v l w) : Calls Try.prog 54 #[v] w fun e w' => ∃ u, e = .returned u ∧ St u l w' ∧ Below w.heap.size w w' ∧ (∀ k, u.ownBlock = some k → w.heap.size ≤ k) := by
  rcases hv with ⟨rfl, rfl⟩ | ⟨b, off, c, rfl, h2, h3, h4, h5⟩
  · have eq := Lib.run_eql_slice_nil (P := Try.prog) w 22 9 none 0 0 0 0 Try.underlying22
    go_enter Try.func54, Try.ntmps54
    go_wp2
    go_ret
    exact ⟨_, rfl, .inl ⟨rfl, rfl⟩, Below.refl _ _, fun k hk => by cases hk⟩
  · obtain ⟨Wa, hWa⟩ : ∃ Wa, w.alloc (.cells #[] 9) = Wa := ⟨_, rfl⟩
    have hba : Below w.heap.size w Wa := by rw [← hWa]; exact (Below.refl _ w).alloc (Nat.le_refl _) _
    have hra : Wa.heap[w.heap.size]? = some (.cells #[] 9 (0, 0)) := by rw [← hWa]; exact heap_alloc_new w _
    have hs : St (.slice (some ⟨b, off, none⟩) l.length c) l Wa := St.below (.inr ⟨b, off, c, rfl, h2, h3, h4, h5⟩) hba
    have ho : Wa.ownsRow w.heap.size 9 1 (.slice (some ⟨w.heap.size, 0, none⟩) 0 0) 0 (sk []).toList := ⟨rfl, .inr ⟨w.heap.size, 0, #[], rfl, Nat.le_refl _, hra, Nat.le_refl _, by simp, rfl, rfl⟩⟩
    obtain ⟨v', w', r, ho2, hb2⟩ := run_apLs Wa w.heap.size 0 22 _ [] l _ ho hs (by omega) hba.size
    have H : Hid (St v' l w' ∧ Below w.heap.size w w' ∧ (∀ k, v'.ownBlock = some k → w.heap.size ≤ k)) := ⟨own_st ho2 (by simp), hba.trans hb2, own_new ho2⟩
    clear h5 hba hra hs ho ho2 hb2
    have eq := Lib.run_eql_slice_nil (P := Try.prog) w 22 9 (some ⟨b, off, none⟩) l.length c 0 0 Try.underlying22
    go_enter Try.func54, Try.ntmps54
    go_wp2
    go_ret
    exact ⟨_, rfl, H.out⟩
/-- What Concat has laid, round by round. -/
def cpre (l1 l2 : List Nat) : Nat → List Nat
  | 0 => []
  | 1 => l1
  | _ => l1 ++ l2
attribute [local go_sem ↓] toApP
set_option maxRecDepth 100000 in
set_option maxHeartbeats 1600000 in
theorem concat_any (l1 l2 : List Nat) (h1 : l1.length ≤ 1073741824) (h2 : l2.length ≤ 1073741824) (v1 v2 : Value) (g : Nat) (w : World) (hg : w.heap[g]? = some (.cells #[v1, v2] 23 (0, 0))) (hv1 : Si .u8 v1 l1 w) (hv2 : Si .u8 v2 l2 w) :
    Calls Try.prog 77 #[.slice (some ⟨g, 0, none⟩) 2 2] w fun e w' => ∃ v, e = .returned v ∧ w'.ownsRow w.heap.size 5 1 v (l1 ++ l2).length (ik .u8 (l1 ++ l2)).toList ∧ Below w.heap.size w w' := by
  have gz : g < w.heap.size := (Array.getElem?_eq_some_iff.1 hg).1
  have HK : Hid (∀ k, k < 2 → ∃ o c e, w.cell? ⟨g, k, none⟩ = some (.slice o e.length c) ∧ Si .u8 (.slice o e.length c) e w ∧ e.length ≤ 1073741824 ∧ cpre l1 l2 (k + 1) = cpre l1 l2 k ++ e) := fun k hk => by
    obtain ⟨o1, c1, e1, -⟩ := hv1.form
    obtain ⟨o2, c2, e2, -⟩ := hv2.form
    rcases (show k = 0 ∨ k = 1 by omega) with rfl | rfl
    · exact ⟨o1, c1, l1, by rw [← e1]; exact (cell_of_row w g 0 _ _ _ hg).trans rfl, by rw [← e1]; exact hv1, h1, by simp [cpre]⟩
    · exact ⟨o2, c2, l2, by rw [← e2]; exact (cell_of_row w g 1 _ _ _ hg).trans rfl, by rw [← e2]; exact hv2, h2, by simp [cpre]⟩
  have HL : Hid (∀ k, k ≤ 2 → (cpre l1 l2 k).length ≤ 2147483648) := fun k hk => by
    rcases (show k = 0 ∨ k = 1 ∨ k = 2 by omega) with rfl | rfl | rfl <;> simp [cpre] <;> omega
  have CG : Hid _ := grow_any (cpre l1 l2 2).length (by have := HL.out 2 (by omega); omega) w
  have HE : Hid (cpre l1 l2 2 = l1 ++ l2) := rfl
  clear hg hv1 hv2 h1 h2
  obtain ⟨n, hn⟩ : ∃ n, n = (cpre l1 l2 2).length := ⟨_, rfl⟩
  rw [← hn] at CG
  have HN : Hid (n = (cpre l1 l2 2).length) := hn
  rw [show (l1 ++ l2).length = n from hn.symm]
  clear hn
  go_enter Try.func77, Try.ntmps77
  go_wp2_with fail
  go_loopw [3, 11] (fun sv iv wr => ∃ k q : Nat, iv = .int .i64 (k : Int) ∧ k ≤ 2 ∧ sv = .int .i64 (q : Int) ∧ Hid (q = (cpre l1 l2 k).length) ∧ wr = w) (fun _ iv _ => 2 - (intOf iv).toNat)
  case atStart => exact ⟨0, 0, rfl, by omega, rfl, rfl, rfl⟩
  case round =>
    obtain ⟨k, q, rfl, hk, rfl, HQ, hw⟩ := hrel
    subst hw
    by_cases hlt : k < 2
    · have hk0 : (0 : Int) ≤ (k : Int) := by omega
      have hk1 : (k : Int) < 2 := by omega
      obtain ⟨o, c, e, ce, -, he, hc⟩ := HK.out k hlt
      obtain ⟨q2, hq2⟩ : ∃ q2, q2 = q + e.length := ⟨_, rfl⟩
      have HQ2 : Hid (q2 = (cpre l1 l2 (k + 1)).length) := by show _ = _; rw [hc, List.length_append, hq2, HQ.out]
      have hl := HL.out (k + 1) (by omega)
      rw [← HQ2.out] at hl
      have f1 : (q : Int) + (e.length : Int) = (q2 : Int) := by omega
      have f2 : (q2 : Int) < 9223372036854775808 := by omega
      have f3 : ¬ ((q2 : Int) < 0) := by omega
      generalize e.length = p at ce f1
      clear hc HQ hl hq2 he CG HN HE HL HK
      go_wp2
      exact ⟨⟨k + 1, q2, by rfl, by omega, rfl, HQ2, trivial⟩, by simp only [intOf]; omega⟩
    · have hke : k = 2 := by omega
      have hk1 : ¬ ((k : Int) < 2) := by omega
      have hqn : q = n := by rw [HQ.out, HN.out, hke]
      subst hqn
      go_wp2_with fail
      refine Calls.mono CG.out ?_
      rintro e W ⟨v, rfl, ho, hb⟩
      have HO : Hid (W.ownsRow wr.heap.size 5 1 v (cpre l1 l2 0).length (ik .u8 (cpre l1 l2 0)).toList ∧ Below wr.heap.size wr W) := ⟨ho, hb⟩
      clear ho hb CG hke hk1 HQ hlt hk
      go_wp2_with fail
      obtain ⟨w, rfl⟩ : ∃ w, w = wr := ⟨_, rfl⟩
      go_loopw [6, 27] (fun v iv wr => ∃ k : Nat, iv = .int .i64 (k : Int) ∧ k ≤ 2 ∧ Hid (wr.ownsRow w.heap.size 5 1 v (cpre l1 l2 k).length (ik .u8 (cpre l1 l2 k)).toList ∧ Below w.heap.size w wr)) (fun _ iv _ => 2 - (intOf iv).toNat)
      case atStart => exact ⟨0, rfl, by omega, HO⟩
      case round =>
        clear HO
        obtain ⟨k, rfl, hk, HO⟩ := hrel
        obtain ⟨ho, hb⟩ := HO.out
        obtain ⟨ou, cu, hou⟩ := own_size ho
        subst hou
        by_cases hlt : k < 2
        · have hk0 : (0 : Int) ≤ (k : Int) := by omega
          have hk1 : (k : Int) < 2 := by omega
          obtain ⟨o, c, e, ce, hs, he, hc⟩ := HK.out k hlt
          have q1 : wr.cell? ⟨g, k, none⟩ = some (.slice o e.length c) := (World.cell?_of_block (w := w) (hb.block g gz)).trans ce
          obtain ⟨v', w', r, ho2, hb2⟩ := run_apP wr w.heap.size _ 23 _ _ e _ ho (hs.below hb) (by have := HL.out k (by omega); omega) hb.size
          have HO2 : Hid (w'.ownsRow w.heap.size 5 1 v' (cpre l1 l2 (k + 1)).length (ik .u8 (cpre l1 l2 (k + 1))).toList ∧ Below w.heap.size w w') := ⟨by rw [hc, List.length_append]; exact ho2, hb.trans hb2⟩
          generalize (cpre l1 l2 k).length = x at r
          generalize e.length = p at r q1
          clear ho hb ho2 hb2 hs he hc ce HO HL HK HN HE
          go_wp2
          exact ⟨⟨k + 1, by rfl, by omega, HO2⟩, by simp only [intOf]; omega⟩
        · have hke : k = 2 := by omega
          have hk1 : ¬ ((k : Int) < 2) := by omega
          have HE2 : Hid (wr.ownsRow w.heap.size 5 1 (.slice ou (cpre l1 l2 k).length cu) q (ik .u8 (l1 ++ l2)).toList ∧ Below w.heap.size w wr) := by have h3 := HN.out; rw [hke] at ho ⊢; rw [h3]; exact ⟨ho, hb⟩
          generalize (cpre l1 l2 k).length = x at HE2 ⊢
          clear ho hb hke HO HL HK HN HE
          go_wp2
          go_ret
          exact ⟨_, rfl, HE2.out⟩
end Go.Proofs.Ytceaklefdahfkab

/- The sieve's rewriter: how it lies; overlap, finish. -/
namespace Go.Proofs.Ytceaklefdahfkab
open Go.RowKit
/-- A rewriter's cells behind its scanner's. -/
def rX (tv : Value) (f : Int) (K : List Nat) (dn : Bool) : List Value := tv :: .int .i64 f :: (K.map (fun (x : Nat) => Value.int .u8 (x : Int)) ++ [.bool dn])
/-- The cells of one that is done. -/
def finC (n h : Nat) : List Value := .pointer none :: .int .i32 0 :: .int .i64 (n : Int) :: .int .i64 (h : Int) :: rX (.slice none 0 0) 0 (List.replicate 63 0) true
theorem zero85 : Try.zeroCells94 = (.pointer none :: .int .i32 0 :: .int .i64 0 :: .int .i64 0 :: rX (.slice none 0 0) 0 (List.replicate 63 0) false).toArray := by kernel_rfl
theorem finC_eq (n h : Nat) : (((((Try.zeroCells94.toList.set 0 (Value.pointer none)).set 1 (Value.int IntKind.i32 0)).set 2 (Value.int IntKind.i64 ↑n)).set 3 (Value.int IntKind.i64 ↑h)).set 69 (Value.bool true)) = finC n h := by
  rw [zero85]
  rfl
theorem finC_one (n h : Nat) : ∀ v ∈ finC n h, v.oneCell' = true := by
  intro v hv
  simp [finC, rX] at hv
  rcases hv with rfl | rfl | rfl | rfl | rfl | rfl | rfl | rfl <;> rfl
theorem finC_len (n h : Nat) : (finC n h).length = 70 := by simp [finC, rX]
def Rwd (gr n h : Nat) (w : World) : Prop := w.heap[gr]? = some (.cells (finC n h).toArray 94 (0, 0))
theorem run_fin (gr n h : Nat) (cs : Array Value) (w : World) (hr : w.heap[gr]? = some (.cells cs 94 (0, 0))) (hz : cs.size = 70) : (storeCells ⟨gr, 0, none⟩ (finC n h)).run Try.prog w = .ok () (w.setRow gr (finC n h).toArray) := by
  have hst := run_storeCells_at Try.prog gr 0 94 (finC n h) 0 _ w hr (by rw [finC_len, hz]; omega) (finC_one n h)
  simp only [Nat.add_zero, List.take_zero, List.nil_append, finC_len, Nat.zero_add] at hst
  rw [List.drop_of_length_le (by simp; omega), List.append_nil] at hst
  exact hst
set_option maxRecDepth 100000 in
theorem fin_any (gr n h : Nat) (cs : Array Value) (w : World) (hr : w.heap[gr]? = some (.cells cs 94 (0, 0))) (hz : cs.size = 70) :
    Calls Try.prog 59 #[.pointer (some ⟨gr, 0, none⟩), .int .i64 (n : Int), .int .i64 (h : Int)] w fun e w' => e = .returned (.tuple #[]) ∧ Rwd gr n h w' ∧ w'.os = w.os ∧ w'.tape = w.tape ∧ w'.output = w.output ∧ w'.heap.size = w.heap.size ∧ ∀ j, j ≠ gr → w'.heap[j]? = w.heap[j]? := by
  have r := run_fin gr n h cs w hr hz
  obtain ⟨W2, hW2⟩ : ∃ W2, w.setRow gr (finC n h).toArray = W2 := ⟨_, rfl⟩
  have H : Hid (Rwd gr n h W2 ∧ W2.os = w.os ∧ W2.tape = w.tape ∧ W2.output = w.output ∧ W2.heap.size = w.heap.size ∧ ∀ j, j ≠ gr → W2.heap[j]? = w.heap[j]?) := by
    rw [← hW2]
    exact ⟨setRow_heap _ _ _ _ _ _ hr, rfl, rfl, rfl, by simp, fun j hj => setRow_other _ _ _ _ hj⟩
  rw [hW2] at r
  rw [← finC_eq] at r
  clear hr hz hW2
  go_enter Try.func59, Try.ntmps59
  go_wp2
  go_returns
  exact ⟨rfl, H.out⟩
/-- Where the first of some hits overlaps the one ahead of it, or what is not free. -/
def ovP (f : Int) (m : Nat) (H : List (Int × Int)) : Int × Bool :=
  if 0 < H.length ∧ (H.getD 0 (0, 0)).1 < f then ((H.getD 0 (0, 0)).1, true) else if 0 < ov H (m : Int) then ((H.getD (ov H (m : Int)).toNat (0, 0)).1, true) else (0, false)
theorem ovR_rng (H : List (Int × Int)) (d : Int) : ∀ n i, 0 < i → ovR H d n i = -1 ∨ (0 < ovR H d n i ∧ ovR H d n i < ((i + n : Nat) : Int))
  | 0, i, _ => .inl rfl
  | n + 1, i, h => by
    rw [ovR]
    split
    · exact .inr ⟨by omega, by omega⟩
    · rcases ovR_rng H d n (i + 1) (by omega) with h1 | ⟨h1, h2⟩
      · exact .inl h1
      · exact .inr ⟨h1, by omega⟩
theorem ov_rng (H : List (Int × Int)) (d : Int) : ov H d = -1 ∨ (0 < ov H d ∧ ov H d < (H.length : Int)) := by
  unfold ov
  rcases ovR_rng H d (H.length - 1) 1 (by omega) with h1 | ⟨h1, h2⟩
  · exact .inl h1
  · refine .inr ⟨h1, ?_⟩
    by_cases h : H.length = 0
    · rw [h] at h1 ⊢
      simp [ovR] at h1
    · omega
theorem sg4 (a b c d tv : Value) (f : Int) (K : List Nat) (dn : Bool) : (a :: b :: c :: d :: rX tv f K dn).toArray[4]? = some tv := by simp [rX]
theorem sg5 (a b c d tv : Value) (f : Int) (K : List Nat) (dn : Bool) : (a :: b :: c :: d :: rX tv f K dn).toArray[5]? = some (.int .i64 f) := by simp [rX]
/-- A rewriter that goes on. -/
def Rwt (gr gt s n h : Nat) (tv : Value) (f : Int) (K : List Nat) (w : World) : Prop := Scg (rX tv f K false) 94 gr gt s n h w
set_option maxRecDepth 100000 in
set_option maxHeartbeats 1600000 in
theorem ovl_any (gr gt s n h : Nat) (tv : Value) (f : Int) (K : List Nat) (t : Tbl) (hwd : t.width ≤ 64) (H : List (Int × Int)) (hr : Rg H) (hv : Value) (w : World) (hw : Rwt gr gt s n h tv f K w) (ht : Tab gt t w) (hH : Hl hv H w) :
    Calls Try.prog 76 #[.pointer (some ⟨gr, 0, none⟩), hv] w fun e w' => e = .returned (.tuple #[.int .i64 (ovP f t.width H).1, .bool (ovP f t.width H).2]) ∧ Below w.heap.size w w' := by
  have CO : Hid (∀ W, Below w.heap.size w W → Calls Try.prog 12 #[hv, .int .i64 (t.width : Int)] W fun e w' => e = .returned (.int .i64 (ov H (t.width : Int))) ∧ Below W.heap.size W w') := fun W hb => overlap_any H hr (t.width : Int) (by unfold I64; omega) hv W (hH.below hb)
  have hov := ov_rng H (t.width : Int)
  obtain ⟨o, c, rfl, hl, ho⟩ := hH.form
  have c0 : w.cell? ⟨gr, 0, none⟩ = some (.pointer (some ⟨gt, 0, none⟩)) := (cell_of_row w gr 0 _ _ _ hw).trans (sg0 _ _ _ _ _)
  have c5 : w.cell? ⟨gr, 5, none⟩ = some (.int .i64 f) := (cell_of_row w gr 5 _ _ _ hw).trans (sg5 _ _ _ _ _ _ _ _)
  obtain ⟨vl, vd, vf, vb, vr, vv, q0, -⟩ := ht
  have ct : w.cell? ⟨gt, 0, none⟩ = some (.int .i64 (t.width : Int)) := (cell_of_row w gt 0 _ _ _ q0).trans rfl
  have gz : gr < w.heap.size := (Array.getElem?_eq_some_iff.1 hw).1
  have gtz : gt < w.heap.size := (Array.getElem?_eq_some_iff.1 q0).1
  have HO : Hid _ := ho
  have HH : Hid (Hl (.slice o H.length c) H w) := hH
  clear hw q0 ho hH
  generalize t.width = m at *
  unfold ovP
  by_cases h0 : 0 < H.length
  · obtain ⟨b, off, rfl, hb, hc⟩ := HO.out h0
    have h0' : (0 : Int) < (H.length : Int) := by omega
    have d0 := (hc 0 h0).1
    rw [Nat.zero_mul, Nat.add_zero] at d0
    have hx := hr
    generalize hx0 : (H.getD 0 (0, 0)).1 = x0 at *
    by_cases hf : x0 < f
    · rw [if_pos ⟨h0, hf⟩]
      clear hc HO HH CO hov hx
      go_enter Try.func76, Try.ntmps76
      go_wp2_with fail
      go_quiet (fail)
      go_wp2
      go_ret2
      exact ⟨rfl, Below.drewN' (Below.refl _ _) _⟩
    · rw [if_neg (fun h => hf h.2)]
      by_cases h1 : 0 < ov H (m : Int)
      · rw [if_pos h1]
        have h2 : ov H (m : Int) < (H.length : Int) := by omega
        obtain ⟨i, hi⟩ : ∃ i : Nat, ov H (m : Int) = (i : Int) := ⟨(ov H (m : Int)).toNat, by omega⟩
        rw [hi, Int.toNat_natCast]
        rw [hi] at h1 h2 CO
        have di := (hc i (by omega)).1
        have HD : Hid (w.cell? ⟨b, off + i * 2, none⟩ = some (.int .i64 (H.getD i (0, 0)).1)) := di
        clear hc HO HH hov hx di
        go_enter Try.func76, Try.ntmps76
        go_wp2_with fail
        go_quiet (fail)
        go_wp2_with fail
        refine Calls.mono (CO.out _ (Below.drewN' (Below.refl _ _) _)) ?_
        rintro e W ⟨rfl, hbW⟩
        have hbb : Below w.heap.size w W := (Below.drewN' (Below.refl _ w) _).trans hbW
        have di : W.cell? ⟨b, off + i * 2, none⟩ = some (.int .i64 (H.getD i (0, 0)).1) := (World.cell?_of_block (w := w) (hbb.block b hb)).trans HD.out
        have HB : Hid _ := hbb
        clear hbW hbb
        go_wp2
        go_ret2
        exact ⟨rfl, HB.out⟩
      · rw [if_neg h1]
        have he : ov H (m : Int) = -1 := by omega
        rw [he] at CO
        clear hc HO HH hov hx
        go_enter Try.func76, Try.ntmps76
        go_wp2_with fail
        go_quiet (fail)
        go_wp2_with fail
        refine Calls.mono (CO.out _ (Below.drewN' (Below.refl _ _) _)) ?_
        rintro e W ⟨rfl, hbW⟩
        have HB : Hid (Below w.heap.size w W) := (Below.drewN' (Below.refl _ w) _).trans hbW
        clear hbW
        go_wp2
        go_ret2
        exact ⟨rfl, HB.out⟩
  · rw [if_neg (fun h => h0 h.1)]
    have h0' : ¬ ((0 : Int) < (H.length : Int)) := by omega
    have he : ov H (m : Int) = -1 := by omega
    rw [he] at CO ⊢
    clear HO HH hov
    go_enter Try.func76, Try.ntmps76
    go_wp2_with fail
    go_quiet (fail)
    go_wp2_with fail
    refine Calls.mono (CO.out _ (Below.drewN' (Below.refl _ _) _)) ?_
    rintro e W ⟨rfl, hbW⟩
    have HB : Hid (Below w.heap.size w W) := (Below.drewN' (Below.refl _ w) _).trans hbW
    clear hbW
    go_wp2
    go_ret2
    exact ⟨rfl, HB.out⟩
end Go.Proofs.Ytceaklefdahfkab

/- The sieve's rewriter: take. -/
namespace Go.Proofs.Ytceaklefdahfkab
open Go.RowKit
/-- Texts put at the places of hits. -/
def puts (T : List ByteArray) (st : Nat) (t : List Nat) (H : List (Int × Int)) : List Nat := H.foldl (fun t x => ovr t (tl (txt T x.2.toNat)) (x.1.toNat - st)) t
/-- The place behind the last hit. -/
def frN (f : Int) (m : Nat) (H : List (Int × Int)) : Int := H.foldl (fun _ x => x.1 + (m : Int)) f
theorem take_snocH {H : List (Int × Int)} {k : Nat} (h : k < H.length) : H.take (k + 1) = H.take k ++ [H.getD k (0, 0)] := by
  rw [List.take_succ_eq_append_getElem h]
  simp [List.getD, h]
theorem puts_snoc (T : List ByteArray) (st : Nat) (t : List Nat) (H : List (Int × Int)) (x : Int × Int) : puts T st t (H ++ [x]) = ovr (puts T st t H) (tl (txt T x.2.toNat)) (x.1.toNat - st) := by simp [puts]
theorem frN_snoc (f : Int) (m : Nat) (H : List (Int × Int)) (x : Int × Int) : frN f m (H ++ [x]) = x.1 + (m : Int) := by simp [frN]
/-- A hit within a text of so many bytes from a place on. -/
def Hin (st N m nT : Nat) (x : Int × Int) : Prop := ∃ i k : Nat, x = ((i : Int), (k : Int)) ∧ st ≤ i ∧ i + m ≤ st + N ∧ k < nT
theorem puts_len {T : List ByteArray} {st m : Nat} (hT : ∀ s ∈ T, s.size = m) : ∀ (H : List (Int × Int)) (t : List Nat), (∀ x ∈ H, Hin st t.length m T.length x) → (puts T st t H).length = t.length
  | [], _, _ => rfl
  | x :: H, t, h => by
    obtain ⟨i, k, rfl, h1, h2, h3⟩ := h x (by simp)
    have hl : (ovr t (tl (txt T k)) (i - st)).length = t.length := ovr_len _ _ _ (by rw [tl_len, hT _ (by rw [txt_eq h3]; exact List.getElem_mem h3)]; omega)
    have := puts_len hT H (ovr t (tl (txt T k)) (i - st)) (fun y hy => by rw [hl]; exact h y (by simp [hy]))
    rw [hl] at this
    exact this
theorem run_cutC (g n c p : Nat) (h : p < n) (hc : n ≤ c) (w : World) : (slB (.slice (some ⟨g, 0, none⟩) n c) (some (.int .i64 (p : Int))) none none).run Try.prog w = .ok (.slice (some ⟨g, p, none⟩) (n - p) (c - p)) w := by
  have := run_slice_l (P := Try.prog) w 23 (some ⟨g, 0, none⟩) n c u27 .i64 (p : Int) (by omega) (by omega)
  unfold slB
  rw [this, elem27, run_size1 w size5]
  simp only [Result.andThen, sliced, Int.toNat_natCast, Option.map_some, Nat.mul_one]
  rw [if_neg (by omega), Go.WideShapes.add_plain, Nat.zero_add]
set_option maxRecDepth 100000 in
/-- A text copied into bytes of one's own. -/
theorem run_cpO (W : World) (ty base g n c o : Nat) (l : List Nat) (s : ByteArray) (ho : W.ownsRow base 5 1 (.slice (some ⟨g, 0, none⟩) n c) n (ik .u8 l).toList) (hfit : o + s.size ≤ n) :
    ∃ W', (cpS ty #[.slice (some ⟨g, o, none⟩) (n - o) (c - o), .string s]).run Try.prog W = .ok (goInt s.size) W' ∧ W'.ownsRow base 5 1 (.slice (some ⟨g, 0, none⟩) n c) n (ik .u8 (ovr l (tl s) o)).toList ∧
      W'.os = W.os ∧ W'.tape = W.tape ∧ W'.output = W.output ∧ W'.heap.size = W.heap.size ∧ ∀ j, j ≠ g → W'.heap[j]? = W.heap[j]? := by
  obtain ⟨h1, ⟨h2, _⟩ | ⟨g', cap', cur, hv, h3, h4, h5, h6, h7, h8⟩⟩ := ho
  · cases h2
  cases hv
  rw [Nat.mul_one] at h1 h7 h8
  have hln : l.length = n := by rw [← h1]; simp [ik]
  have hlen : ((tl s).map fun (x : Nat) => Value.int .u8 (x : Int)).length = s.size := by rw [List.length_map, tl_len]
  have hst := run_storeCells_at Try.prog g o 5 ((tl s).map fun (x : Nat) => Value.int .u8 (x : Int)) 0 _ W h4 (by rw [hlen, h7]; omega) (fun v hv => by obtain ⟨x, _, rfl⟩ := List.mem_map.1 hv; rfl)
  rw [hlen, Nat.add_zero] at hst
  have htk : List.map (fun b : UInt8 => Value.int IntKind.u8 (b.toNat : Int)) s.data.toList = (tl s).map fun (x : Nat) => Value.int .u8 (x : Int) := by
    simp [tl]
  obtain ⟨i0, hi0, hz0, hz1, hz2⟩ := info_parts info5
  have hmn : min s.size (n - o) = s.size := by omega
  have hm : Nat.min s.size (n - o) = s.size := hmn
  refine ⟨W.setRow g (cur.toList.take o ++ (tl s).map (fun (x : Nat) => Value.int .u8 (x : Int)) ++ cur.toList.drop (o + s.size)).toArray, ?_, ⟨by rw [Nat.mul_one, Array.length_toList, ik_size, ovr_len _ _ _ (by rw [tl_len]; omega), hln], .inr ⟨g, c, _, rfl, h3, setRow_heap _ _ _ _ _ _ h4, h5, h6, ?_, ?_⟩⟩, rfl, rfl, rfl, by simp, fun j hj => setRow_other _ _ _ _ hj⟩
  · unfold cpS
    simp [Builtin.copy_, run_underlying Try.underlying23, Builtin.lenOf, Builtin.firstCells, sizeOf, typeInfo, hi0, hm]
    rw [List.take_of_length_le (by simp), htk]
    rw [hst]
    simp [Result.andThen]
  · simp only [List.size_toArray, List.length_append, List.length_take, List.length_drop, Array.length_toList, hlen, h7]
    omega
  · have hA : cur.toList.length = c := by rw [Array.length_toList, h7]
    generalize cur.toList = A at h8 hA ⊢
    have e1 : (ik .u8 (ovr l (tl s) o)).toList = (A.take n).take o ++ (tl s).map (fun (x : Nat) => Value.int .u8 (x : Int)) ++ (A.take n).drop (o + s.size) := by
      rw [h8]
      simp [ik, ovr, tl_len, List.map_drop, List.map_take]
    rw [e1, Nat.mul_one, List.take_take, Nat.min_eq_left (by omega)]
    rw [List.take_append, List.take_of_length_le (by simp [hlen]; omega)]
    have e2 : n - (A.take o ++ (tl s).map (fun (x : Nat) => Value.int .u8 (x : Int))).length = n - (o + s.size) := by rw [List.length_append, List.length_take, hlen, hA]; omega
    rw [e2, List.drop_take]
/-- All but one block stand. -/
structure Bur (gs : Nat) (w w' : World) : Prop where
  os : w'.os = w.os
  tape : w'.tape = w.tape
  output : w'.output = w.output
  size : w.heap.size ≤ w'.heap.size
  block : ∀ j, j < w.heap.size → j ≠ gs → w'.heap[j]? = w.heap[j]?
theorem Bur.trans {g : Nat} {a b c : World} (h : Bur g a b) (k : Bur g b c) : Bur g a c := ⟨k.os.trans h.os, k.tape.trans h.tape, k.output.trans h.output, Nat.le_trans h.size k.size, fun j hj hn => (k.block j (Nat.lt_of_lt_of_le hj h.size) hn).trans (h.block j hj hn)⟩
theorem but_of {g : Nat} {a b : World} (h : Below a.heap.size a b) : Bur g a b := ⟨h.os, h.tape, h.output, h.size, fun j hj _ => h.block j hj⟩
end Go.Proofs.Ytceaklefdahfkab

/- The sieve's rewriter: take. -/
namespace Go.Proofs.Ytceaklefdahfkab
open Go.RowKit
theorem sgk (a b c d tv : Value) (f : Int) (K : List Nat) (dn : Bool) (j : Nat) (hj : j < K.length) : (a :: b :: c :: d :: rX tv f K dn).toArray[6 + j]? = some (.int .u8 ((K.getD j 0 : Nat) : Int)) := by
  rw [Nat.add_comm]
  simp [rX, List.getElem?_append, hj]
theorem ss5 (a b c d tv v : Value) (f : Int) (K : List Nat) (dn : Bool) : (a :: b :: c :: d :: rX tv f K dn).toArray.setIfInBounds 5 v = (a :: b :: c :: d :: tv :: v :: (K.map (fun (x : Nat) => Value.int .u8 (x : Int)) ++ [.bool dn])).toArray := by simp [rX]
theorem rX_len (a b c d tv : Value) (f : Int) (K : List Nat) (dn : Bool) (h : K.length = 63) : (a :: b :: c :: d :: rX tv f K dn).toArray.size = 70 := by simp [rX, h]
/-- What holds in take's loop. -/
def wr0_inv (gr gt s' h' N q B0 B2 n : Nat) (T : List ByteArray) (m : Nat) (tv hv v : Value) (f : Int) (l K : List Nat) (H : List (Int × Int)) (w wr : World) (k pl : Nat) : Prop :=
  wr.ownsRow B2 5 1 v N (ik .u8 (puts T q l (H.take k))).toList ∧ wr.ownsRow B0 39 2 hv H.length (hc H) ∧ Bur gr w wr ∧ B2 ≤ wr.heap.size ∧ Rwt gr gt s' (n + pl) h' tv (frN f m (H.take k)) K wr
theorem own_slice {w : World} {B e n s : Nat} {v : Value} {xs : List Value} (h : w.ownsRow B e s v n xs) (hn : 0 < n) : ∃ g cap cur, v = .slice (some ⟨g, 0, none⟩) n cap ∧ B ≤ g ∧ w.heap[g]? = some (.cells cur e (0, 0)) ∧ n ≤ cap := by
  obtain ⟨_, ⟨_, h2⟩ | ⟨g, cap, cur, rfl, h3, h4, h5, _⟩⟩ := h
  · omega
  · exact ⟨g, cap, cur, rfl, h3, h4, h5⟩
/-- One hit more in take's loop. -/
theorem tk_step (H : List (Int × Int)) (gr gt s' h' N q B0 B2 n : Nat) (T : List ByteArray) (m : Nat) (hm0 : 0 < H.length → 0 < m) (hT : ∀ s ∈ T, s.size = m) (tv hv v : Value) (f : Int) (l K : List Nat) (w wr : World) (k pl : Nat) (hI : wr0_inv gr gt s' h' N q B0 B2 n T m tv hv v f l K H w wr k pl) (hk : k < H.length)
    (hin : ∀ x ∈ H, Hin q N m T.length x) (hNq : q + N ≤ 1152921504606846976) (hTv : St tv T w) (hTg : tv.ownBlock ≠ some gr) (gz : gr < w.heap.size) (hL : ∀ k, hv.ownBlock = some k → k < B2) (hB0 : w.heap.size ≤ B0) :
    ∃ (hb hcp gT c i kk o bT offT cT F : Nat) (tw : ByteArray) (f0 : Int), hv = .slice (some ⟨hb, 0, none⟩) H.length hcp ∧ v = .slice (some ⟨gT, 0, none⟩) N c ∧ tv = .slice (some ⟨bT, offT, none⟩) T.length cT ∧ kk < T.length ∧ o < N ∧ N ≤ c ∧ IntKind.i64.wrap ((i : Int) - (q : Int)) = (o : Int) ∧ ((i : Int) + (tw.size : Int) = (F : Int)) ∧ (F : Int) < 9223372036854775808 ∧
      wr.cell? ⟨hb, k * 2, none⟩ = some (.int .i64 (i : Int)) ∧ wr.cell? ⟨hb, k * 2 + 1, none⟩ = some (.int .i64 (kk : Int)) ∧
      (wr.alloc (.cells #[.int .i64 (i : Int), .int .i64 (kk : Int)] 39)).drew.cell? ⟨wr.heap.size, 0, none⟩ = some (.int .i64 (i : Int)) ∧ (wr.alloc (.cells #[.int .i64 (i : Int), .int .i64 (kk : Int)] 39)).drew.cell? ⟨wr.heap.size, 1, none⟩ = some (.int .i64 (kk : Int)) ∧
      (wr.alloc (.cells #[.int .i64 (i : Int), .int .i64 (kk : Int)] 39)).drew.cell? ⟨gr, 4, none⟩ = some tv ∧ (wr.alloc (.cells #[.int .i64 (i : Int), .int .i64 (kk : Int)] 39)).drew.cell? ⟨bT, offT + kk, none⟩ = some (.string tw) ∧
      ∃ W4, (cpS 3 #[.slice (some ⟨gT, o, none⟩) (N - o) (c - o), .string tw]).run Try.prog (wr.alloc (.cells #[.int .i64 (i : Int), .int .i64 (kk : Int)] 39)).drew = .ok (goInt tw.size) W4 ∧
        W4.drew.cell? ⟨wr.heap.size, 0, none⟩ = some (.int .i64 (i : Int)) ∧ W4.drew.cell? ⟨wr.heap.size, 1, none⟩ = some (.int .i64 (kk : Int)) ∧ W4.drew.cell? ⟨gr, 4, none⟩ = some tv ∧ W4.drew.cell? ⟨bT, offT + kk, none⟩ = some (.string tw) ∧
        W4.drew.cell? ⟨gr, 5, none⟩ = some (.int .i64 f0) ∧ W4.drew.frozen? ⟨gr, 5, none⟩ = false ∧ wr0_inv gr gt s' h' N q B0 B2 n T m tv hv v f l K H w (W4.drew.setCell ⟨gr, 5, none⟩ (.int .i64 (F : Int))) (k + 1) pl := by
  have hm1 := hm0 (by omega)
  obtain ⟨i1, i2, i3, i4, i5⟩ := hI
  have hx : H.getD k (0, 0) = H[k] := by simp [List.getD, hk]
  obtain ⟨i, kk, hik, n1, n2, n3⟩ := hin (H.getD k (0, 0)) (by rw [hx]; exact List.getElem_mem hk)
  obtain ⟨gT, c, curT, rfl, gT0, rT, hNc⟩ := own_slice i1 (by omega)
  obtain ⟨hb, hcp, curH, rfl, hb0, rH, _⟩ := own_slice i2 (by omega)
  have hbB := hL hb rfl
  obtain ⟨bT, offT, cT, rfl, q2, q3, q4, q5⟩ : ∃ b off cap, tv = .slice (some ⟨b, off, none⟩) T.length cap ∧ T.length ≤ cap ∧ cap ≤ maxLen ∧ b < w.heap.size ∧ ∀ (j : Nat) s, T[j]? = some s → w.cell? ⟨b, off + j, none⟩ = some (.string s) := by
    rcases hTv with ⟨_, h⟩ | h
    · rw [h] at n3; simp at n3
    · exact h
  have hbTg : bT ≠ gr := fun e => hTg (by rw [e]; rfl)
  have hsz : (txt T kk).size = m := hT _ (by rw [txt_eq n3]; exact List.getElem_mem n3)
  obtain ⟨hHl, _⟩ := hl_own i2
  have hcells : wr.cell? ⟨hb, k * 2, none⟩ = some (.int .i64 (i : Int)) ∧ wr.cell? ⟨hb, k * 2 + 1, none⟩ = some (.int .i64 (kk : Int)) := by
    rcases hHl with ⟨h, _⟩ | ⟨b', off', cap', h, _, _, _, h6⟩
    · cases h
    · have h7 := h6 k hk
      rw [hik] at h7
      cases h
      rw [Nat.zero_add] at h7
      exact h7
  obtain ⟨Wa, hWa⟩ : ∃ Wa, (wr.alloc (.cells #[.int .i64 (i : Int), .int .i64 (kk : Int)] 39)).drew = Wa := ⟨_, rfl⟩
  have zA : Wa.heap.size = wr.heap.size + 1 := by rw [← hWa]; show (wr.alloc _).heap.size = _; simp
  have rA : Wa.heap[wr.heap.size]? = some (.cells #[.int .i64 (i : Int), .int .i64 (kk : Int)] 39 (0, 0)) := by rw [← hWa]; exact heap_alloc_new wr _
  have oA : ∀ j, j < wr.heap.size → Wa.heap[j]? = wr.heap[j]? := fun j hj => by rw [← hWa]; exact heap_alloc_old _ _ (h := hj)
  have fA : Wa.os = wr.os ∧ Wa.tape = wr.tape ∧ Wa.output = wr.output := by rw [← hWa]; exact ⟨rfl, rfl, rfl⟩
  have gTz : gT < wr.heap.size := (Array.getElem?_eq_some_iff.1 rT).1
  have grz : gr < wr.heap.size := (Array.getElem?_eq_some_iff.1 i5).1
  have bTz : bT < wr.heap.size := by have := i3.size; omega
  have iA1 : Wa.ownsRow B2 5 1 (.slice (some ⟨gT, 0, none⟩) N c) N (ik .u8 (puts T q l (H.take k))).toList := own_keep2 i1 fun j hj => by cases hj; exact oA gT gTz
  obtain ⟨W4, rc, o4, k1, k2, k3, k4, k5⟩ := run_cpO Wa 3 B2 gT N c (i - q) _ (txt T kk) iA1 (by omega)
  have rG : Wa.heap[gr]? = some (.cells (.pointer (some ⟨gt, 0, none⟩) :: .int .i32 (s' : Int) :: .int .i64 ((n + pl : Nat) : Int) :: .int .i64 (h' : Int) :: rX (.slice (some ⟨bT, offT, none⟩) T.length cT) (frN f m (H.take k)) K false).toArray 94 (0, 0)) := (oA gr grz).trans i5
  have rG4 := (k5 gr (by omega)).trans rG
  have rA4 := (k5 wr.heap.size (by omega)).trans rA
  have cT1 : Wa.cell? ⟨bT, offT + kk, none⟩ = some (.string (txt T kk)) := by
    rw [World.cell?_of_block (w := wr) (oA bT bTz), World.cell?_of_block (w := w) (i3.block bT q4 hbTg)]
    exact q5 kk _ (txt_get n3)
  have cT4 : W4.cell? ⟨bT, offT + kk, none⟩ = some (.string (txt T kk)) := (World.cell?_of_block (w := Wa) (k5 bT (by omega))).trans cT1
  refine ⟨hb, hcp, gT, c, i, kk, i - q, bT, offT, cT, i + m, txt T kk, frN f m (H.take k), rfl, rfl, rfl, n3, by omega, hNc, ?_, by rw [hsz]; omega, by omega, hcells.1, hcells.2, ?_⟩
  · rw [wi _ (by unfold I64; omega)]; omega
  rw [hWa]
  refine ⟨(cell_of_row Wa _ 0 _ _ _ rA).trans rfl, (cell_of_row Wa _ 1 _ _ _ rA).trans rfl, (cell_of_row Wa _ 4 _ _ _ rG).trans (sg4 _ _ _ _ _ _ _ _), cT1, W4, rc, (cell_of_row W4 _ 0 _ _ _ rA4).trans rfl, (cell_of_row W4 _ 1 _ _ _ rA4).trans rfl, (cell_of_row W4 _ 4 _ _ _ rG4).trans (sg4 _ _ _ _ _ _ _ _), cT4, (cell_of_row W4 _ 5 _ _ _ rG4).trans (sg5 _ _ _ _ _ _ _ _), frozen_of_row W4.drew _ _ _ _ rG4, ?_⟩
  have kO : ∀ j, j ≠ gr → (W4.drew.setCell ⟨gr, 5, none⟩ (.int .i64 ((i + m : Nat) : Int))).heap[j]? = W4.heap[j]? := fun j hj => heap_setCell_other _ _ _ _ hj
  have zs : (W4.drew.setCell ⟨gr, 5, none⟩ (.int .i64 ((i + m : Nat) : Int))).heap.size = wr.heap.size + 1 := by
    have : (W4.drew.setCell ⟨gr, 5, none⟩ (.int .i64 ((i + m : Nat) : Int))).heap.size = W4.heap.size := by simp only [World.setCell, Array.size_modify]; rfl
    omega
  refine ⟨?_, ?_, ?_, by omega, ?_⟩
  · rw [take_snocH hk, puts_snoc, hik]
    exact own_keep2 o4 fun j hj => by cases hj; exact kO gT (by omega)
  · exact own_keep2 i2 fun j hj => by
      cases hj
      rw [kO hb (by omega), k5 hb (by omega), oA hb (by have := (Array.getElem?_eq_some_iff.1 rH).1; omega)]
  · refine ⟨?_, ?_, ?_, by have := i3.size; omega, fun j hj hn => ?_⟩
    · show W4.os = _; rw [k1, fA.1, i3.os]
    · show W4.tape = _; rw [k2, fA.2.1, i3.tape]
    · show W4.output = _; rw [k3, fA.2.2, i3.output]
    · have := i3.size
      rw [kO j hn, k5 j (by omega), oA j (by omega)]
      exact i3.block j hj hn
  · rw [take_snocH hk, frN_snoc, hik]
    have := (heap_setCell_same W4.drew gr 5 _ _ (.int .i64 ((i + m : Nat) : Int)) rG4)
    rw [ss5] at this
    unfold Rwt Scg rX
    rw [this]
    simp
attribute [local go_sem ↓] toCpS toSlB
set_option maxRecDepth 100000 in
set_option maxHeartbeats 3200000 in
theorem take_any (gr gt s n h : Nat) (tv : Value) (f : Int) (K : List Nat) (hK : K.length = 63) (T : List ByteArray) (m : Nat) (H : List (Int × Int)) (hm0 : 0 < H.length → 0 < m) (hT : ∀ s ∈ T, s.size = m) (t : Tbl) (hwk : Wk t) (hwd : t.width = m) (G : Nat → Prop) (hG : Gd t G) (hs : G s) (hn : n ≤ 1125899906842624) (hh : h ≤ 63) (hhn : h ≤ n) (p : List Nat) (hpb : Byt p) (hpl : p.length ≤ 1073741824) (pv : Value) (w : World) (hR : Rwt gr gt s n h tv f K w) (ht : TabK gr gt t w) (hp : Si .u8 pv p w) (hpg : pv.ownBlock ≠ some gr) (hTv : St tv T w) (hTg : tv.ownBlock ≠ some gr)
    (hH : fnd t s n p = H) (hHr : Rg H) (hin : ∀ x ∈ H, Hin (n - h) (h + p.length) m T.length x) :
    Calls Try.prog 49 #[.pointer (some ⟨gr, 0, none⟩), pv] w fun e w' => Bur gr w w' ∧
      (((ovP f m H).2 = true ∧ e = .returned (.tuple #[.slice none 0 0, .slice none 0 0, .int .i64 52, .int .i64 (ovP f m H).1]) ∧ Rwd gr n h w') ∨
       ((ovP f m H).2 = false ∧ ∃ v hv, e = .returned (.tuple #[v, hv, .int .i64 0, .int .i64 0]) ∧ w'.ownsRow w.heap.size 5 1 v (h + p.length) (ik .u8 (puts T (n - h) (K.take h ++ p) H)).toList ∧ w'.ownsRow w.heap.size 39 2 hv H.length (hc H) ∧ Rwt gr gt (rn t s p) (n + p.length) (t.depths.getD (rn t s p) 0) tv (frN f m H) K w')) := by
  have c0 : w.cell? ⟨gr, 0, none⟩ = some (.pointer (some ⟨gt, 0, none⟩)) := (cell_of_row w gr 0 _ _ _ hR).trans (sg0 _ _ _ _ _)
  have c1 : w.cell? ⟨gr, 1, none⟩ = some (.int .i32 (s : Int)) := (cell_of_row w gr 1 _ _ _ hR).trans (sg1 _ _ _ _ _)
  have c2 : w.cell? ⟨gr, 2, none⟩ = some (.int .i64 (n : Int)) := (cell_of_row w gr 2 _ _ _ hR).trans (sg2 _ _ _ _ _)
  have c3 : w.cell? ⟨gr, 3, none⟩ = some (.int .i64 (h : Int)) := (cell_of_row w gr 3 _ _ _ hR).trans (sg3 _ _ _ _ _)
  have gz : gr < w.heap.size := (Array.getElem?_eq_some_iff.1 hR).1
  obtain ⟨W0, hW0⟩ : ∃ W0, w.alloc (.cells #[.pointer (some ⟨gt, 0, none⟩), .int .i32 (s : Int), .int .i64 (n : Int), .int .i64 (h : Int)] 90) = W0 := ⟨_, rfl⟩
  have b0 : Below w.heap.size w W0 := by rw [← hW0]; exact (Below.refl _ w).alloc (Nat.le_refl _) _
  have r0 : W0.heap[w.heap.size]? = some (.cells #[.pointer (some ⟨gt, 0, none⟩), .int .i32 (s : Int), .int .i64 (n : Int), .int .i64 (h : Int)] 90 (0, 0)) := by rw [← hW0]; exact heap_alloc_new w _
  have z0 : W0.heap.size = w.heap.size + 1 := by rw [← hW0]; simp
  have CF : Hid _ := feed_gen (rX tv f K false) 94 gr gt t hwk G hG s n h hs (by omega) p hpb (by omega) pv W0 ((b0.block gr gz).trans hR) (ht.keep b0.size fun j _ hj => b0.block j hj) (hp.below b0)
  rw [hH] at CF
  have HFIN : Hid (∀ W1 hv, W1.ownsRow W0.heap.size 39 2 hv H.length (hc H) → Rwt gr gt (rn t s p) (n + p.length) (t.depths.getD (rn t s p) 0) tv f K W1 → Bur gr W0 W1 →
      (Calls Try.prog 76 #[.pointer (some ⟨gr, 0, none⟩), hv] W1 fun e w' => e = .returned (.tuple #[.int .i64 (ovP f m H).1, .bool (ovP f m H).2]) ∧ Below W1.heap.size W1 w') ∧ W1.cell? ⟨w.heap.size, 2, none⟩ = some (.int .i64 (n : Int)) ∧ W1.cell? ⟨w.heap.size, 3, none⟩ = some (.int .i64 (h : Int))) := fun W1 hv ho hr hb => by
    have hA := (hb.block w.heap.size (by omega) (by omega)).trans r0
    have := ovl_any gr gt _ _ _ tv f K t hwk.wd H hHr hv W1 hr ((ht.keep (Nat.le_trans b0.size hb.size) fun j hj hz => (hb.block j (by omega) (by omega)).trans (b0.block j hz)).tab) (hl_own ho).1
    rw [hwd] at this
    exact ⟨this, (cell_of_row W1 _ 2 _ _ _ hA).trans rfl, (cell_of_row W1 _ 3 _ _ _ hA).trans rfl⟩
  have HT : Hid (∀ s ∈ T, s.size = m) := hT
  have HIN : Hid (∀ x ∈ H, Hin (n - h) (h + p.length) m T.length x) := hin
  have HTV : Hid (St tv T w ∧ tv.ownBlock ≠ some gr) := ⟨hTv, hTg⟩
  have HPV : Hid (Si .u8 pv p w ∧ pv.ownBlock ≠ some gr) := ⟨hp, hpg⟩
  have HB0 : Hid (Below w.heap.size w W0) := b0
  have HZ0 : Hid (W0.heap.size = w.heap.size + 1) := z0
  clear hR ht hp hpg hTv hTg hT hin hH hHr hG hs hpb b0 r0 z0 hwk hwd
  obtain ⟨s', hs'⟩ : ∃ s', s' = rn t s p := ⟨_, rfl⟩
  obtain ⟨h', hh'⟩ : ∃ h', h' = t.depths.getD s' 0 := ⟨_, rfl⟩
  rw [← hs', ← hh'] at HFIN CF ⊢
  clear hs' hh'
  go_enter Try.func49, Try.ntmps49
  go_wp2_with fail
  refine Calls.mono CF.out ?_
  rintro e W1 ⟨hv, rfl, ho1, hr1, q1, q2, q3, q4, q5⟩
  clear CF c0 c1 c2 c3 hW0
  obtain ⟨CO, ca, cb⟩ := HFIN.out W1 hv ho1 hr1 ⟨q1, q2, q3, q4, q5⟩
  have HB1 : Hid (Bur gr W0 W1) := ⟨q1, q2, q3, q4, q5⟩
  have HR1 : Hid (Rwt gr gt s' (n + p.length) h' tv f K W1) := hr1
  have HO1 : Hid (W1.ownsRow W0.heap.size 39 2 hv H.length (hc H)) := ho1
  have HCO : Hid _ := CO
  have HAC : Hid (W1.cell? ⟨w.heap.size, 2, none⟩ = some (.int .i64 (n : Int)) ∧ W1.cell? ⟨w.heap.size, 3, none⟩ = some (.int .i64 (h : Int))) := ⟨ca, cb⟩
  clear HFIN CO ca cb q1 q2 q3 q4 q5 hr1 ho1
  generalize hov : ovP f m H = ov2 at HCO ⊢
  obtain ⟨x, bb⟩ := ov2
  have HOV : Hid (ovP f m H = (x, bb)) := hov
  clear hov
  go_wp2_with fail
  refine Calls.mono HCO.out ?_
  rintro e W2 ⟨rfl, b2⟩
  clear HCO
  have A0z : w.heap.size < W1.heap.size := by have := HB1.out.size; have := HZ0.out; omega
  have d2 : W2.cell? ⟨w.heap.size, 2, none⟩ = some (.int .i64 (n : Int)) := (World.cell?_of_block (w := W1) (b2.block _ A0z)).trans HAC.out.1
  have d3 : W2.cell? ⟨w.heap.size, 3, none⟩ = some (.int .i64 (h : Int)) := (World.cell?_of_block (w := W1) (b2.block _ A0z)).trans HAC.out.2
  have grz : gr < W1.heap.size := by omega
  have HR2 : Hid (Rwt gr gt s' (n + p.length) h' tv f K W2) := (b2.block gr grz).trans HR1.out
  have HO2 : Hid (W2.ownsRow W0.heap.size 39 2 hv H.length (hc H)) := own_keep2 HO1.out fun k hk => b2.block k (HO1.out.lt k hk).2
  have HB2 : Hid (Bur gr w W2) := (but_of HB0.out).trans (HB1.out.trans (but_of b2))
  have HL2 : Hid (∀ k, hv.ownBlock = some k → k < W2.heap.size) := fun k hk => Nat.lt_of_lt_of_le (HO1.out.lt k hk).2 b2.size
  clear HR1 HO1 HAC b2 HB1
  cases bb with
  | true =>
    have CX : Hid _ := fin_any gr n h _ W2 HR2.out (rX_len _ _ _ _ _ _ _ _ hK)
    go_wp2_with fail
    refine Calls.mono CX.out ?_
    rintro e W3 ⟨rfl, k1, k2, k3, k4, k5, k6⟩
    have HE : Hid (Bur gr w W3 ∧ Rwd gr n h W3) := ⟨⟨k2.trans HB2.out.os, k3.trans HB2.out.tape, k4.trans HB2.out.output, by rw [k5]; exact HB2.out.size, fun j hj hn => (k6 j hn).trans (HB2.out.block j hj hn)⟩, k1⟩
    clear k1 k2 k3 k4 k5 k6 CX
    go_wp2
    go_returns
    exact ⟨HE.out.1, .inl ⟨by rw [HOV.out], by rw [HOV.out], HE.out.2⟩⟩
  | false =>
    obtain ⟨po, pc, hpo, -⟩ := HPV.out.1.form
    subst hpo
    have CC : Hid (∀ W, Below W2.heap.size W2 W → W.heap[W2.heap.size]? = some (.cells #[.slice (some ⟨gr, 6, none⟩) h 63, .slice po p.length pc] 23 (0, 0)) → Calls Try.prog 77 #[.slice (some ⟨W2.heap.size, 0, none⟩) 2 2] W fun e w' => ∃ v, e = .returned v ∧ Hid (w'.ownsRow W2.heap.size 5 1 v (h + p.length) (ik .u8 (K.take h ++ p)).toList ∧ Below W2.heap.size W2 w')) := fun W hwa hrow => by
      have gz2 : gr < W2.heap.size := by have := HB2.out.size; omega
      have hl : (K.take h).length = h := by rw [List.length_take]; omega
      have hk : Si .u8 (.slice (some ⟨gr, 6, none⟩) h 63) (K.take h) W := .inr ⟨gr, 6, 63, by rw [hl], by omega, by unfold maxLen; omega, by have := hwa.size; omega, fun j hj => by
        rw [hl] at hj
        rw [World.cell?_of_block (w := W2) (hwa.block gr gz2), cell_of_row W2 _ _ _ _ _ HR2.out, sgk _ _ _ _ _ _ _ _ _ (by omega)]
        simp [List.getD, hj]⟩
      have hp2 : Si .u8 (.slice po p.length pc) p W2 := HPV.out.1.keep HB2.out.size fun g hg hz => HB2.out.block g hz fun e => HPV.out.2 (by rw [hg, e])
      have := concat_any (K.take h) p (by omega) hpl _ _ W2.heap.size _ hrow hk (hp2.below hwa)
      rw [List.length_append, hl] at this
      exact this.mono fun e w' ⟨v, h1, h2, h3⟩ => ⟨v, h1, own_down h2 hwa.size, hwa.trans (h3.mono hwa.size)⟩
    have hh0 : (0 : Int) ≤ (h : Int) := by omega
    have hh63 : (h : Int) ≤ 63 := by omega
    go_wp2_with fail
    go_region_with ((go_at_call 77; refine Calls.mono (CC.out _ ?_ ?_) ?_; exact Below.drewN' ((Below.refl _ _).alloc (Nat.le_refl _) _) 1; exact heap_alloc_new W2 _; rintro e W3 ⟨v, rfl, HC⟩))
    clear CC
    have hz2 := HB2.out.size
    have A2z : w.heap.size < W2.heap.size := by
      rcases Nat.lt_or_ge w.heap.size W2.heap.size with h | h
      · exact h
      · simp [World.cell?, Array.getElem?_eq_none h] at d2
    have e2 : W3.cell? ⟨w.heap.size, 2, none⟩ = some (.int .i64 (n : Int)) := (World.cell?_of_block (w := W2) (HC.out.2.block _ A2z)).trans d2
    have e3 : W3.cell? ⟨w.heap.size, 3, none⟩ = some (.int .i64 (h : Int)) := (World.cell?_of_block (w := W2) (HC.out.2.block _ A2z)).trans d3
    obtain ⟨q, hq⟩ : ∃ q, q = n - h := ⟨_, rfl⟩
    obtain ⟨N, hN⟩ : ∃ N, N = h + p.length := ⟨_, rfl⟩
    have f1 : IntKind.i64.wrap ((n : Int) - (h : Int)) = (q : Int) := by rw [wi _ (by unfold I64; omega)]; omega
    have HI : Hid (wr0_inv gr gt s' h' N q W0.heap.size W2.heap.size n T m tv hv v f (K.take h ++ p) K H w W3 0 p.length) := by
      rw [← hN] at HC
      refine ⟨HC.out.1, own_keep2 HO2.out fun k hk => HC.out.2.block k (HL2.out k hk), HB2.out.trans (but_of HC.out.2), HC.out.2.size, (HC.out.2.block gr (by omega)).trans HR2.out⟩
    have HST : Hid (∀ wr k, wr0_inv gr gt s' h' N q W0.heap.size W2.heap.size n T m tv hv v f (K.take h ++ p) K H w wr k p.length → k < H.length → _) := fun wr k hI hk => tk_step H gr gt s' h' N q W0.heap.size W2.heap.size n T m hm0 HT.out tv hv v f (K.take h ++ p) K w wr k p.length hI hk (by rw [hq, hN]; exact HIN.out) (by omega) HTV.out.1 HTV.out.2 gz HL2.out (by rw [HZ0.out]; omega)
    have HFI : Hid (∀ wr, wr0_inv gr gt s' h' N q W0.heap.size W2.heap.size n T m tv hv v f (K.take h ++ p) K H w wr H.length p.length → Bur gr w wr ∧ wr.ownsRow w.heap.size 5 1 v (h + p.length) (ik .u8 (puts T (n - h) (K.take h ++ p) H)).toList ∧ wr.ownsRow w.heap.size 39 2 hv H.length (hc H) ∧ Rwt gr gt s' (n + p.length) h' tv (frN f m H) K wr) := fun wr ⟨i1, i2, i3, i4, i5⟩ => by
      rw [List.take_length] at i1 i5
      rw [← hq, ← hN]
      exact ⟨i3, own_down i1 (by omega), own_down i2 (by rw [HZ0.out]; omega), i5⟩
    obtain ⟨oh, ch, hoh⟩ := own_size HO2.out
    subst hoh
    have hHL : H.length ≤ 9223372036854775807 := by obtain ⟨_, _, _, h, _⟩ := (hl_own HO2.out).1.form; exact h
    rw [← hN] at HC
    obtain ⟨ov', cv, hov'⟩ := own_size HC.out.1
    subst hov'
    clear d2 d3 HR2 HO2 hq hN HC HIN HTV HT HPV HL2 HB2 HZ0 HB0 A0z grz A2z hz2 hn hhn hpl hK hm0 gz
    go_wp2_with fail
    go_loopw [55] (fun iv wr => ∃ k : Nat, iv = .int .i64 (k : Int) ∧ k ≤ H.length ∧ Hid (wr0_inv gr gt s' h' N q W0.heap.size W2.heap.size n T m tv (.slice oh H.length ch) (.slice ov' N cv) f (K.take h ++ p) K H w wr k p.length)) (fun iv _ => H.length - (intOf iv).toNat)
    case atStart => exact ⟨0, rfl, by omega, HI⟩
    case round =>
      clear HI
      obtain ⟨k, rfl, hk, HI⟩ := hrel
      by_cases hlt : k < H.length
      · have hk0 : (0 : Int) ≤ (k : Int) := by omega
        have hk1 : (k : Int) < (H.length : Int) := by omega
        obtain ⟨hb, hcp, gT, c, i, kk, o, bT, offT, cT, F, tw, f0, x1, x2, x3, n3, hoN, hNc, g1, g2, g3, x4, x5, x6, x7, x8, x9, W4, rc, y1, y2, y3, y4, y5, y6, HI2⟩ := HST.out wr k HI.out hlt
        cases x1
        cases x2
        subst x3
        have HI3 : Hid _ := HI2
        clear HI2 HST HI HFI
        have rs := run_cutC gT N cv o hoN hNc
        have hkk0 : (0 : Int) ≤ (kk : Int) := by omega
        have hkk1 : (kk : Int) < (T.length : Int) := by omega
        generalize T.length = TL at *
        go_wp2_with fail
        go_big_region
        go_wp2_with fail
        go_big_region
        go_wp2
        exact ⟨⟨k + 1, by rfl, by omega, HI3⟩, by simp only [intOf]; omega⟩
      · have hk1 : ¬ ((k : Int) < (H.length : Int)) := by omega
        have hke : k = H.length := by omega
        have HE := HFI.out wr (by have := HI.out; rw [hke] at this; exact this)
        have HEE : Hid _ := HE
        clear HE HST HI HFI
        go_wp2
        go_returns
        exact ⟨HEE.out.1, .inr ⟨by rw [HOV.out], _, _, rfl, HEE.out.2⟩⟩
end Go.Proofs.Ytceaklefdahfkab

/- The sieve: Rewriter, Rewrite. -/
namespace Go.Proofs.Ytceaklefdahfkab
open Go.RowKit
theorem newC_eq (gt : Nat) (u : Value) : (((((Try.zeroCells94.setIfInBounds 0 (Value.pointer (some ⟨gt, 0, none⟩))).setIfInBounds 1 (Value.int IntKind.i32 0)).setIfInBounds 2 (Value.int IntKind.i64 0)).setIfInBounds 3 (Value.int IntKind.i64 0)).setIfInBounds 4 u) = (.pointer (some ⟨gt, 0, none⟩) :: .int .i32 ((0 : Nat) : Int) :: .int .i64 ((0 : Nat) : Int) :: .int .i64 ((0 : Nat) : Int) :: rX u 0 (List.replicate 63 0) false).toArray := by
  rw [zero85]
  rfl
/-- What Rewriter answers. -/
def RwnP (t : Tbl) (gt : Nat) (T : List ByteArray) (B : Nat) (e : Ending) (w' : World) : Prop :=
  (T.length ≠ t.values.length ∧ e = .returned (.tuple #[.pointer none, .int .i64 2])) ∨
  (T.length = t.values.length ∧ allW t.width T = false ∧ e = .returned (.tuple #[.pointer none, .int .i64 50])) ∨
  (T.length = t.values.length ∧ allW t.width T = true ∧ ∃ gr tv, e = .returned (.tuple #[.pointer (some ⟨gr, 0, none⟩), .int .i64 0]) ∧ B ≤ gr ∧ Rwt gr gt 0 0 0 tv 0 (List.replicate 63 0) w' ∧ St tv T w' ∧ tv.ownBlock ≠ some gr ∧ ∀ k, tv.ownBlock = some k → B ≤ k)
theorem rwn_new (w W2 : World) (gt : Nat) (t : Tbl) (T : List ByteArray) (u : Value) (hT : T.length = t.values.length) (hA : true = allW t.width T) (h : Below w.heap.size w W2 ∧ St u T W2 ∧ ∀ k, u.ownBlock = some k → w.heap.size ≤ k) :
    Below w.heap.size w (W2.alloc (.cells (((((Try.zeroCells94.setIfInBounds 0 (Value.pointer (some ⟨gt, 0, none⟩))).setIfInBounds 1 (Value.int IntKind.i32 0)).setIfInBounds 2 (Value.int IntKind.i64 0)).setIfInBounds 3 (Value.int IntKind.i64 0)).setIfInBounds 4 u) 94)) ∧ RwnP t gt T w.heap.size (.returned (.tuple #[.pointer (some ⟨W2.heap.size, 0, none⟩), .int .i64 0])) (W2.alloc (.cells (((((Try.zeroCells94.setIfInBounds 0 (Value.pointer (some ⟨gt, 0, none⟩))).setIfInBounds 1 (Value.int IntKind.i32 0)).setIfInBounds 2 (Value.int IntKind.i64 0)).setIfInBounds 3 (Value.int IntKind.i64 0)).setIfInBounds 4 u) 94)) := by
  obtain ⟨hb, hs, ho⟩ := h
  rw [newC_eq]
  have hbl : ∀ k, u.ownBlock = some k → k < W2.heap.size := fun k hk => by
    rcases hs with ⟨rfl, _⟩ | ⟨b, off, cap, rfl, _, _, h4, _⟩
    · cases hk
    · cases hk; exact h4
  refine ⟨hb.alloc hb.size _, .inr (.inr ⟨hT, hA.symm, W2.heap.size, u, rfl, hb.size, heap_alloc_new W2 _, hs.below ((Below.refl _ W2).alloc (Nat.le_refl _) _), fun e => ?_, ho⟩)⟩
  have := hbl _ e
  omega
set_option maxRecDepth 100000 in
set_option maxHeartbeats 1600000 in
theorem rewriter_any (g gt : Nat) (t : Tbl) (T : List ByteArray) (hTl : T.length ≤ 1048576) (tvl : Value) (w : World) (h : Sve g gt w) (ht : Tab gt t w) (hv : St tvl T w) :
    Calls Try.prog 20 #[.pointer (some ⟨g, 0, none⟩), tvl] w fun e w' => Below w.heap.size w w' ∧ RwnP t gt T w.heap.size e w' := by
  have C0 : Hid (Calls Try.prog 50 #[.pointer (some ⟨g, 0, none⟩)] w fun e w' => e = .returned (.bool false) ∧ w' = w) := none_any g gt w h
  have C1 : Hid (Calls Try.prog 51 #[.pointer (some ⟨g, 0, none⟩)] w fun e w' => e = .returned (.int .i64 (t.values.length : Int)) ∧ w' = w) := len_any g gt t w h ht
  have C2 : Hid (Calls Try.prog 53 #[.pointer (some ⟨g, 0, none⟩)] w fun e w' => e = .returned (.int .i64 (t.width : Int)) ∧ w' = w) := width_any g gt t w h ht
  have C3 : Hid (Calls Try.prog 52 #[tvl, .int .i64 (t.width : Int)] w fun e w' => e = .returned (.bool (allW t.width T)) ∧ w' = w) := allOf_any T (by omega) t.width tvl w hv
  have C4 : Hid (∀ W, Below w.heap.size w W → W.heap.size = w.heap.size → Calls Try.prog 19 #[.pointer (some ⟨g, 0, none⟩)] W fun e w' => e = .returned (.pointer (some ⟨w.heap.size, 0, none⟩)) ∧ w'.cell? ⟨w.heap.size, 0, none⟩ = some (.pointer (some ⟨gt, 0, none⟩)) ∧ w'.cell? ⟨w.heap.size, 1, none⟩ = some (.int .i32 0) ∧ w'.cell? ⟨w.heap.size, 2, none⟩ = some (.int .i64 0) ∧ w'.cell? ⟨w.heap.size, 3, none⟩ = some (.int .i64 0) ∧ Hid (Scn w.heap.size gt 0 0 0 w' ∧ Below w.heap.size w w')) := fun W hb hz => by
    have h2 : Sve g gt W := (hb.block g (Array.getElem?_eq_some_iff.1 h).1).trans h
    refine (scanner_any g gt W h2).mono ?_
    rintro e w' ⟨rfl, a, b, c⟩
    rw [hz] at a b ⊢
    exact ⟨rfl, (cell_of_row w' _ 0 _ _ _ a).trans rfl, (cell_of_row w' _ 1 _ _ _ a).trans rfl, (cell_of_row w' _ 2 _ _ _ a).trans rfl, (cell_of_row w' _ 3 _ _ _ a).trans rfl, a, hb.trans b⟩
  have C5 : Hid (∀ W, Scn w.heap.size gt 0 0 0 W ∧ Below w.heap.size w W → Calls Try.prog 54 #[tvl] W fun e w' => ∃ ou cu, e = .returned (.slice ou T.length cu) ∧ w'.cell? ⟨w.heap.size, 0, none⟩ = some (.pointer (some ⟨gt, 0, none⟩)) ∧ w'.cell? ⟨w.heap.size, 1, none⟩ = some (.int .i32 0) ∧ w'.cell? ⟨w.heap.size, 2, none⟩ = some (.int .i64 0) ∧ w'.cell? ⟨w.heap.size, 3, none⟩ = some (.int .i64 0) ∧ Hid (Below w.heap.size w w' ∧ St (.slice ou T.length cu) T w' ∧ ∀ k, (Value.slice ou T.length cu).ownBlock = some k → w.heap.size ≤ k)) := fun W ⟨ha, hb⟩ => by
    refine (clone_any T hTl tvl W (hv.below hb)).mono ?_
    rintro e w' ⟨u, rfl, a, b, c⟩
    have hz : w.heap.size < W.heap.size := (Array.getElem?_eq_some_iff.1 ha).1
    have ha' := (b.block _ hz).trans ha
    obtain ⟨ou, cu, rfl, -⟩ := a.form
    exact ⟨ou, cu, rfl, (cell_of_row w' _ 0 _ _ _ ha').trans rfl, (cell_of_row w' _ 1 _ _ _ ha').trans rfl, (cell_of_row w' _ 2 _ _ _ ha').trans rfl, (cell_of_row w' _ 3 _ _ _ ha').trans rfl, hb.trans (b.mono hb.size), a, fun k hk => by have := c k hk; omega⟩
  obtain ⟨o, c, hof, -⟩ := hv.form
  subst hof
  clear h ht hv
  obtain ⟨bb, hbb⟩ : ∃ bb, bb = allW t.width T := ⟨_, rfl⟩
  obtain ⟨vl, hvl⟩ : ∃ vl, vl = t.values.length := ⟨_, rfl⟩
  rw [← hbb] at C3
  rw [← hvl] at C1
  have HBB : Hid (bb = allW t.width T) := hbb
  have HVL : Hid (vl = t.values.length) := hvl
  clear hbb hvl
  go_enter Try.func20, Try.ntmps20
  go_wp2_with fail
  refine Calls.mono C0.out ?_
  rintro e W ⟨rfl, rfl⟩
  clear C0
  go_wp2_with fail
  refine Calls.mono C1.out ?_
  rintro e W ⟨rfl, rfl⟩
  clear C1
  by_cases hl : T.length = vl
  · subst hl
    go_wp2_with fail
    refine Calls.mono C2.out ?_
    rintro e W ⟨rfl, rfl⟩
    clear C2
    go_wp2_with fail
    refine Calls.mono C3.out ?_
    rintro e W ⟨rfl, rfl⟩
    clear C3
    cases bb with
    | false =>
      go_wp2
      go_ret2
      exact ⟨Below.refl _ _, .inr (.inl ⟨HVL.out, HBB.out.symm, rfl⟩)⟩
    | true =>
      go_wp2_with fail
      go_region_with (first | (go_at_call 19; refine Calls.mono (C4.out _ ?_ ?_) ?_; exact Below.drewN' (Below.refl _ _) 1; rfl; rintro e W1 ⟨rfl, k0, k1, k2, k3, HK⟩) | (go_at_call 54; refine Calls.mono (C5.out _ HK.out) ?_; rintro e W2 ⟨ou, cu, rfl, j0, j1, j2, j3, HJ⟩))
      all_goals
        have HP : Hid _ := rwn_new W W2 gt t T (.slice ou T.length cu) HVL.out HBB.out HJ.out
        clear HJ HK C4 C5 j0 j1 j2 j3 k0 k1 k2 k3
        go_wp2
        go_ret2
        exact HP.out
  · have hl' : ¬ ((T.length : Int) = (vl : Int)) := by omega
    go_wp2
    go_ret2
    exact ⟨Below.refl _ _, .inl ⟨by rw [← HVL.out]; exact hl, rfl⟩⟩
theorem Si.blk {k : IntKind} {v : Value} {d : List Nat} {w : World} (h : Si k v d w) : ∀ j, v.ownBlock = some j → j < w.heap.size := fun j hj => by
  rcases h with ⟨rfl, _⟩ | ⟨b, off, cap, rfl, _, _, h4, _⟩
  · cases hj
  · cases hj; exact h4
/-- What Rewrite answers. -/
def RwP (m nv : Nat) (T : List ByteArray) (D : List Nat) (H : List (Int × Int)) (B : Nat) (e : Ending) (w' : World) : Prop :=
  (T.length ≠ nv ∧ e = .returned (.tuple #[.slice none 0 0, .int .i64 2, .int .i64 0])) ∨
  (T.length = nv ∧ allW m T = false ∧ e = .returned (.tuple #[.slice none 0 0, .int .i64 50, .int .i64 0])) ∨
  (T.length = nv ∧ allW m T = true ∧ (ovP 0 m H).2 = true ∧ e = .returned (.tuple #[.slice none 0 0, .int .i64 52, .int .i64 (ovP 0 m H).1])) ∨
  (T.length = nv ∧ allW m T = true ∧ (ovP 0 m H).2 = false ∧ ∃ v, e = .returned (.tuple #[v, .int .i64 0, .int .i64 0]) ∧ w'.ownsRow B 5 1 v D.length (ik .u8 (puts T 0 D H)).toList)
theorem allW_all {m : Nat} {T : List ByteArray} (h : allW m T = true) : ∀ s ∈ T, s.size = m := fun s hs => by
  unfold allW at h
  simpa using List.all_eq_true.1 h s hs
theorem but_below {B gr : Nat} {a b : World} (h : Bur gr a b) (hg : B ≤ gr) (hB : B ≤ a.heap.size) : Below B a b := ⟨h.os, h.tape, h.output, h.size, fun j hj => h.block j (by omega) (by omega)⟩
set_option maxRecDepth 100000 in
set_option maxHeartbeats 1600000 in
theorem rewrite_gen (g gt : Nat) (t : Tbl) (hwk : Wk t) (G : Nat → Prop) (hG : Gd t G) (hs0 : G 0) (m : Nat) (hwd : t.width = m) (T : List ByteArray) (hTl : T.length ≤ 1048576) (tvl dv : Value) (D : List Nat) (hDb : Byt D) (hDl : D.length ≤ 1073741824) (w : World) (h : Sve g gt w) (ht : TabK w.heap.size gt t w) (hT : St tvl T w) (hD : Si .u8 dv D w) (H : List (Int × Int)) (hH : fnd t 0 0 D = H) (hr : Rg H) (hin : ∀ x ∈ H, Hin 0 D.length m t.values.length x) (hm0 : 0 < H.length → 0 < m) :
    Calls Try.prog 13 #[.pointer (some ⟨g, 0, none⟩), dv, tvl] w fun e w' => Below w.heap.size w w' ∧ RwP m t.values.length T D H w.heap.size e w' := by
  have C1 : Hid (Calls Try.prog 20 #[.pointer (some ⟨g, 0, none⟩), tvl] w fun e w' => Below w.heap.size w w' ∧ RwnP t gt T w.heap.size e w') := rewriter_any g gt t T hTl tvl w h ht.tab hT
  have C2 : Hid (∀ gr tv W, Below w.heap.size w W → w.heap.size ≤ gr → Rwt gr gt 0 0 0 tv 0 (List.replicate 63 0) W → St tv T W → tv.ownBlock ≠ some gr → T.length = t.values.length → allW m T = true → Calls Try.prog 49 #[.pointer (some ⟨gr, 0, none⟩), dv] W fun e w' => Below w.heap.size w w' ∧
      (((ovP 0 m H).2 = true ∧ e = .returned (.tuple #[.slice none 0 0, .slice none 0 0, .int .i64 52, .int .i64 (ovP 0 m H).1])) ∨ ((ovP 0 m H).2 = false ∧ ∃ v hv, e = .returned (.tuple #[v, hv, .int .i64 0, .int .i64 0]) ∧ w'.ownsRow w.heap.size 5 1 v D.length (ik .u8 (puts T 0 D H)).toList))) := fun gr tv W hb hgr hR hTv hTg hTn hA => by
    have hblk := hD.blk
    have := take_any gr gt 0 0 0 tv 0 (List.replicate 63 0) (by simp) T m H hm0 (allW_all hA) t hwk hwd G hG hs0 (by omega) (by omega) (by omega) D hDb hDl dv W hR ((ht.keep hb.size fun j hj _ => hb.block j hj).mono hgr) (hD.below hb) (fun e => by have := hblk _ e; omega) hTv hTg hH hr (fun x hx => by
      have := hin x hx
      rw [← hTn] at this
      simpa using this)
    simp only [Nat.zero_add, Nat.sub_zero, List.take_zero, List.nil_append] at this
    refine this.mono fun e w' ⟨hbt, hc⟩ => ⟨hb.trans (but_below hbt hgr hb.size), ?_⟩
    rcases hc with ⟨x1, x2, _⟩ | ⟨x1, v, hv, x2, x3, _⟩
    · exact .inl ⟨x1, x2⟩
    · exact .inr ⟨x1, v, hv, x2, own_down x3 hb.size⟩
  have HW : Hid (t.width = m) := hwd
  obtain ⟨o, c, hof, -⟩ := hD.form
  clear h ht hT hD hH hr hin hm0 hwk hG hs0 hDb hwd
  subst hof
  go_enter Try.func13, Try.ntmps13
  go_wp2_with fail
  refine Calls.mono C1.out ?_
  rintro e W ⟨hb, hP⟩
  clear C1
  have HB : Hid (Below w.heap.size w W) := hb
  rcases hP with ⟨x1, rfl⟩ | ⟨x1, x2, rfl⟩ | ⟨x1, x2, gr, tv, rfl, x3, x4, x5, x6, _⟩
  · have HE : Hid (∀ e, e = .returned (.tuple #[.slice none 0 0, .int .i64 2, .int .i64 0]) → Below w.heap.size w W ∧ RwP m t.values.length T D H w.heap.size e W) := fun e he => ⟨hb, .inl ⟨x1, he⟩⟩
    clear C2 hb x1
    go_wp2
    go_ret3
    exact HE.out _ rfl
  · have HE : Hid (∀ e, e = .returned (.tuple #[.slice none 0 0, .int .i64 50, .int .i64 0]) → Below w.heap.size w W ∧ RwP m t.values.length T D H w.heap.size e W) := fun e he => ⟨hb, .inr (.inl ⟨x1, by rw [← HW.out]; exact x2, he⟩)⟩
    clear C2 hb x1 x2
    go_wp2
    go_ret3
    exact HE.out _ rfl
  · rw [HW.out] at x2
    have C3 : Hid _ := C2.out gr tv W hb x3 x4 x5 x6 x1 x2
    have HX : Hid (T.length = t.values.length ∧ allW m T = true) := ⟨x1, x2⟩
    clear C2 hb x3 x4 x5 x6 x1 x2
    go_wp2_with fail
    refine Calls.mono C3.out ?_
    rintro e W2 ⟨hb2, hc⟩
    clear C3
    rcases hc with ⟨y1, rfl⟩ | ⟨y1, v, hv, rfl, y2⟩
    · have HE : Hid (∀ e, e = .returned (.tuple #[.slice none 0 0, .int .i64 52, .int .i64 (ovP 0 m H).1]) → Below w.heap.size w W2 ∧ RwP m t.values.length T D H w.heap.size e W2) := fun e he => ⟨hb2, .inr (.inr (.inl ⟨HX.out.1, HX.out.2, y1, he⟩))⟩
      clear hb2 y1 HX HB
      go_wp2
      go_ret3
      exact HE.out _ rfl
    · have HE : Hid (∀ e, e = .returned (.tuple #[v, .int .i64 0, .int .i64 0]) → Below w.heap.size w W2 ∧ RwP m t.values.length T D H w.heap.size e W2) := fun e he => ⟨hb2, .inr (.inr (.inr ⟨HX.out.1, HX.out.2, y1, v, he, y2⟩))⟩
      clear hb2 y1 y2 HX HB
      go_wp2
      go_ret3
      exact HE.out _ rfl
/-- Rewrite, of a sieve of such words. -/
theorem rewrite_hts (ws : List ByteArray) (m : Nat) (hp : Pt ws m) (ns : List Nat) (hn : NewOk ws ns) (g gt : Nat) (T : List ByteArray) (hTl : T.length ≤ 1048576) (tvl dv : Value) (D : List Nat) (hDb : Byt D) (hDl : D.length ≤ 1073741824) (w : World) (h : Sve g gt w) (ht : TabK w.heap.size gt (ftT ((wdS ws ns).map tl) ns m) w) (hT : St tvl T w) (hD : Si .u8 dv D w) :
    Calls Try.prog 13 #[.pointer (some ⟨g, 0, none⟩), dv, tvl] w fun e w' => Below w.heap.size w w' ∧ RwP m ws.length T D (hts (ws.map tl) m D) w.heap.size e w' := by
  have hw := hp.wd hn
  have hln := hp.ln
  have hl := wdS_len hn.1
  have hll : ((wdS ws ns).map tl).length = ws.length := by rw [List.length_map]; exact hl
  have hb : ∀ u ∈ (wdS ws ns).map tl, Byt u := fun u hu => by obtain ⟨s, _, rfl⟩ := List.mem_map.1 hu; exact tl_byt s
  have hv : ns.length = ((wdS ws ns).map tl).length := by rw [hn.1.len, hll]
  have hvl : (ftT ((wdS ws ns).map tl) ns m).values.length = ws.length := by
    show (lbS _ _).values.length = _
    rw [(lbS_same _ _).2.2.2.2]
    exact hn.1.len
  have hwd : (ftT ((wdS ws ns).map tl) ns m).width = m := by
    show (lbS _ _).width = _
    rw [(lbS_same _ _).2.2.1]
    rfl
  have := rewrite_gen g gt _ (hw.wk ns (by omega) hb hv hp.m1) _ (hw.gd ns (by omega) hb hv hp.m1) (gS_pos _ _ _) m hwd T hTl tvl dv D hDb hDl w h ht hT hD _ (hp.fnd hn D hDb) (hts_rg _ (by rw [List.length_map]; omega) m D (by omega)) (fun x hx => by
    obtain ⟨j, hj, rfl⟩ := List.getElem_of_mem hx
    have := hts_get (ws.map tl) m D j hj
    rw [show (hts (ws.map tl) m D).getD j (0, 0) = (hts (ws.map tl) m D)[j] by simp [List.getD, hj]] at this
    obtain ⟨i, k, h1, h2, h3, _⟩ := this
    exact ⟨i, k, h1, by omega, by omega, by rw [hvl]; simpa using h3⟩) (fun _ => hp.m0)
  rw [hvl] at this
  exact this
end Go.Proofs.Ytceaklefdahfkab
