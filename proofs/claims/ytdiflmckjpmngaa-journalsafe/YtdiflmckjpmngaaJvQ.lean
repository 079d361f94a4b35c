/- JournalSafe: the law. -/
import Derived.Test.YtdiflmckjpmngaaJvO
import Derived.Test.YtdiflmckjpmngaaJvP
import Derived.BigQuiet
namespace Go.Proofs.Ytdiflmckjpmngaa
open Go.RowKit
def actA (kd fl : Int) (pv : Value) (n k0 k1 : Int) : Array Value := #[.int .i64 kd, .int .i64 fl, pv, .int .i64 n, .int .i64 k0, .int .i64 k1]
/-- A list of acts as it lies. -/
def Acts (W : World) (v : Value) (N : Nat) : Prop := ∃ oa cap, v = .slice oa N cap ∧ N ≤ maxLen ∧ ∀ i, i < N → ∃ g o kd fl pv l n k0 k1, oa = some ⟨g, o, none⟩ ∧ g < W.heap.size ∧ W.rangeAt g (o + i * 6) (actA kd fl pv n k0 k1).toList ∧ Bl W pv l
theorem sizeA : (Try.prog.info? 35).map (·.size) = some 6 := by kernel_rfl
def ldA (p : Value) : Sem Value := Instr.loadAt 35 p
theorem toLdA (p : Value) : Instr.loadAt 35 p = ldA p := rfl
theorem ld_A (w : World) (g o : Nat) (c : Array Value) (hc : c.size = 6) (h : w.rangeAt g o c.toList) : (ldA (.pointer (some ⟨g, o, none⟩))).run Try.prog w = .ok (.agg c) w := by
  have := run_loadAt_mid (P := Try.prog) w g o 35 c.toList _ h Try.underlying35 rfl (by rw [sizeA]; simp [hc])
  simpa [ldA] using this
theorem run_slh (w : World) (oa : Option Addr) (n c h : Nat) (hh : h ≤ c) : (slB (.slice oa n c) none (some (.int .i64 (h : Int))) none).run Try.prog w = .ok (.slice oa h c) w := by
  have := run_slice_h (P := Try.prog) w 25 oa n c uB .i64 (h : Int) (by omega) (by omega)
  unfold slB
  rw [this, elemB, run_size5]
  have e : oa.map (fun a => a.add (0 * 1)) = oa := by
    cases oa with
    | none => rfl
    | some a => obtain ⟨b, o, s⟩ := a; rfl
  simp only [Result.andThen, sliced, Int.toNat_natCast, e, Nat.sub_zero, ite_self]
theorem Bl.take {W : World} {oa : Option Addr} {n cap : Nat} {l : List Nat} (h : Bl W (.slice oa n cap) l) (k : Nat) (hk : k ≤ l.length) : Bl W (.slice oa k cap) (l.take k) := by
  obtain ⟨oa', cap', he, h2, h3, h4, h5⟩ := h
  injection he with e1 e2 e3
  subst e1 e3
  have hl : (l.take k).length = k := by rw [List.length_take]; omega
  refine ⟨oa, cap, by rw [hl], by rw [hl]; omega, h3, fun y hy => h4 y (List.mem_of_mem_take hy), fun j u hu => h5 j u ?_⟩
  rw [bs_take] at hu
  have hj : j < k := by have := (List.getElem?_eq_some_iff.1 hu).1; rw [List.length_take] at this; omega
  rwa [List.getElem?_take_of_lt hj] at hu
theorem bl3 (W : World) : Bl (W.alloc (.cells #[.int .u8 1, .int .u8 2, .int .u8 3] 5)) (.slice (some ⟨W.heap.size, 0, none⟩) 3 3) [1, 2, 3] := by
  refine ⟨some ⟨W.heap.size, 0, none⟩, 3, rfl, Nat.le_refl _, by unfold maxLen; omega, fun x hx => ?_, fun j u hu => ⟨W.heap.size, 0, rfl, by simp, ?_⟩⟩
  · simp at hx
    omega
  · rw [Nat.zero_add, cell_of_row _ _ _ _ _ _ (heap_alloc_new _ _)]
    rw [← hu]
    match j with
    | 0 => rfl
    | 1 => rfl
    | 2 => rfl
    | j + 3 => simp [bs]
noncomputable def FST : Array Value := zM
section
attribute [local go_sem ↓] toLdA toSlB
set_option maxRecDepth 100000 in
set_option maxHeartbeats 6400000 in
theorem safe_any (W : World) (av : Value) (N : Nat) (kp : Int) (hA : Acts W av N) : Calls Try.prog 3 #[av, .int .i64 kp] W fun e w' => e = .returned (.bool true) ∧ Below W.heap.size W w' := by
  obtain ⟨oA, cA, rfl, hN, hacts⟩ := hA
  have HAC : Hid _ := hacts
  have C0 : Hid _ := new0_any W
  clear hacts
  go_enter Try.func3, Try.ntmps3
  go_wp2_with fail
  refine Calls.mono C0.out ?_
  rintro e X0 ⟨rfl, hX0⟩
  have bA : Below X0.heap.size X0 (X0.alloc (.cells #[.int .u8 1, .int .u8 2, .int .u8 3] 5)) := (Below.refl _ X0).alloc (Nat.le_refl _) _
  have C1 : Hid _ := Append0 ((dv_new hX0).below bA) (Nat.le_trans hX0.1.size bA.size) (([], 0), ([], 0)) rfl (by decide) _ [1, 2, 3] (bl3 X0) (by decide)
  have HX0 : Hid (NdR W X0 ∧ Below X0.heap.size X0 (X0.alloc (.cells #[.int .u8 1, .int .u8 2, .int .u8 3] 5))) := ⟨hX0, bA⟩
  clear hX0 bA C0
  go_wp2_with fail
  refine Calls.mono C1.out ?_
  rintro e X1 ⟨rfl, lv1, m1, hd1, hf1⟩
  have hb1 : Below W.heap.size W X1 := by
    have b0 := HX0.out.1.1.trans (HX0.out.2.mono HX0.out.1.1.size)
    have := b0.size
    exact ⟨hf1.os.trans b0.os, hf1.tape.trans b0.tape, hf1.output.trans b0.output, Nat.le_trans b0.size hf1.size, fun j hj => (hf1.block j (by omega) (by omega) (by simp [Value.ownBlock])).trans (b0.block j hj)⟩
  have C2 : Hid _ := Sync0 hd1 hb1.size (([1, 2, 3], 0), ([], 0)) rfl (by simp)
  have HB1 : Hid (Below W.heap.size W X1 ∧ Dv W.heap.size X1 (W.heap.size + 1) lv1 zM ([] ++ [m1]) ([(([], 0), ([], 0))] ++ [(([1, 2, 3], 0), ([], 0))])) := ⟨hb1, hd1⟩
  clear hd1 hf1 hb1 C1 HX0
  go_wp2_with fail
  refine Calls.mono C2.out ?_
  rintro e X2 ⟨rfl, lv2, m2, hd2, hf2⟩
  have hb2 : Below W.heap.size W X2 := by
    have b0 := HB1.out.1
    have := b0.size
    exact ⟨hf2.os.trans b0.os, hf2.tape.trans b0.tape, hf2.output.trans b0.output, Nat.le_trans b0.size hf2.size, fun j hj => (hf2.block j (by omega) (by omega) (fun e => by have := (HB1.out.2.ownrow e).2.1; omega)).trans (b0.block j hj)⟩
  have C3 : Hid _ := count_any hd2
  obtain ⟨Y, hY⟩ : ∃ Y, (X2.alloc (.cells #[.int .i64 3, .int .i64 0] 33)).alloc (.cells #[.int .i64 3, .int .i64 0] 33) = Y := ⟨_, rfl⟩
  have HS0 : Hid (Sx W Y (W.heap.size + 1) X2.heap.size (X2.heap.size + 1) lv2 zM ([] ++ [m1] ++ [m2]) ([(([], 0), ([], 0))] ++ [(([1, 2, 3], 0), ([], 0))] ++ [(([1, 2, 3], 3), ([], 0))]) (([1, 2, 3], 3), ([], 0)) 0) := by
    have b2 : Below X2.heap.size X2 Y := by rw [← hY]; exact below2 _ _ _
    exact ⟨hd2.below b2, rfl, by simp, by simp, by simp, hb2.trans (b2.mono hb2.size), by rw [← hY]; exact row2 _ _ _, by rw [← hY]; exact row2n _ _ _, hb2.size, by have := hb2.size; omega, by omega⟩
  have HY : Hid ((X2.alloc (.cells #[.int .i64 3, .int .i64 0] 33)).alloc (.cells #[.int .i64 3, .int .i64 0] 33) = Y) := hY
  clear hd2 hf2 hb2 hY C2 HB1
  go_wp2_with fail
  refine Calls.mono C3.out ?_
  rintro e w' ⟨rfl, hw⟩
  have hw2 := hw.symm
  subst hw2
  clear C3
  simp only [List.nil_append, List.length_append, List.length_cons, List.length_nil]
  go_wp2_with fail
  rw [HY.out]
  obtain ⟨sb, hsb⟩ : ∃ sb, X2.heap.size = sb := ⟨_, rfl⟩
  obtain ⟨zb, hzb⟩ : ∃ zb, X2.heap.size + 1 = zb := ⟨_, rfl⟩
  obtain ⟨v, hv⟩ : ∃ v, W.heap.size + 1 = v := ⟨_, rfl⟩
  rw [hzb, hv] at HS0 ⊢
  rw [hsb] at HS0 ⊢
  clear hsb hzb hv HY
  go_loopw [8] (fun iv wr => ∃ (i : Nat), iv = .int .i64 (i : Int) ∧ Hid (i ≤ 60 ∧ i ≤ N ∧ ∃ lv ms sp x, Sx W wr v sb zb lv zM ms sp x i)) (fun iv _ => 61 - (intOf iv).toNat)
  case atStart => exact ⟨0, rfl, ⟨by omega, by omega, _, _, _, _, HS0.out⟩⟩
  case round =>
    obtain ⟨i, rfl, HR⟩ := hrel
    by_cases hgo : i < N ∧ i < 60
    · have hi1 : (i : Int) < (N : Int) := by omega
      have hi2 : (i : Int) < 60 := by omega
      have hi0 : (0 : Int) ≤ (i : Int) := by omega
      obtain ⟨-, -, lv, ms, sp, x, hSx⟩ := HR.out
      obtain ⟨g, o, kd, fl, pv, l, n, k0, k1, rfl, hg, hrg, hBl⟩ := HAC.out i hgo.1
      have HSx : Hid (Sx W wr v sb zb lv zM ms sp x i) := hSx
      have ldact := ld_A wr g (o + i * 6) (actA kd fl pv n k0 k1) rfl (fun j u hu => (World.cell?_of_block (w := W) (a := ⟨g, o + i * 6 + j, none⟩) (hSx.bel.block g hg)).trans (hrg j u hu))
      have HBl : Hid (Bl wr pv l) := hBl.below hSx.bel
      obtain ⟨oa, cap, rfl, -⟩ := id hBl
      obtain ⟨r, hr, hr1⟩ := and_ex1 fl
      have w2 : IntKind.i64.wrap ((i : Int) + 1) = (i : Int) + 1 := by rw [IntKind.wrap_i64]; omega
      have HI : Hid (i < N ∧ i < 60) := hgo
      clear hgo hSx hg hrg hBl HR
      unfold actA at ldact
      have hr01 : r = 0 ∨ r = 1 := by omega
      clear hr1
      by_cases hl : l.length ≤ 300
      · have hl3 : ¬ ((300 : Int) < (l.length : Int)) := by omega
        have hl4 : ¬ (300 < l.length) := by omega
        have HBL : Hid (Bl wr (.slice oa l.length cap) l ∧ l.length ≤ 300 ∧ l.length = l.length) := ⟨HBl.out, hl, rfl⟩
        clear hl
        go_upto_region 15 with fail
        rename_i Qo K4 h4 Q3 K3 h3 K2 h2 K1 h1
        have HT : Hid (∀ a w, Code.wp Try.prog tail28 (Exit.inBlock 1 (Exit.then K3 Q3)) a w → K2 a w) := h2
        clear h2
        have bA : Below wr.heap.size wr (wr.alloc (.cells #[.int .i64 kd, .int .i64 fl, .slice oa l.length cap, .int .i64 n, .int .i64 k0, .int .i64 k1] 35)) := (Below.refl _ wr).alloc (Nat.le_refl _) _
        by_cases q0 : kd = 0
        · subst q0
          rcases hr01 with rfl | rfl
          · as_aux_lemma =>
              have hSA := HSx.out.below bA
              have C : Hid _ := Append0 hSA.dv hSA.bel.size x hSA.cur (by have := hSA.cnt; have := HI.out; omega) (.slice oa l.length cap) l (HBL.out.1.below bA) (by have := hSA.l0; have := HI.out; have := HBL.out.2; omega)
              obtain ⟨NN, hNN⟩ : ∃ NN, x.1.1.length + l.length = NN := ⟨_, rfl⟩
              have w5 : IntKind.i64.wrap ((x.1.1.length : Int) + (l.length : Int)) = (NN : Int) := by rw [IntKind.wrap_i64]; have := hSA.l0; have := HI.out; have := HBL.out.2; omega
              have HSA : Hid _ := hSA
              have HN : Hid ((x.1.1 ++ l).length = NN) := by show _ = _; rw [List.length_append]; exact hNN
              clear hSA hNN
              go_wp2_with fail
              refine Calls.mono C.out ?_
              rintro e w1 hP
              obtain ⟨lv', ms', sp', hSy⟩ := HSA.out.op hP
              obtain ⟨rfl, -⟩ := hP
              have z0 : w1.cell? ⟨zb, 0, none⟩ = some (.int .i64 (x.1.1.length : Int)) := by rw [cell_of_row _ _ _ _ _ _ hSy.rz]; rfl
              obtain ⟨fz, hSy2⟩ := hSy.setZ HSA.out.loz HSA.out.ne 0 NN ((x.1.1 ++ l, x.1.2), x.2) ⟨rfl, rfl⟩ (by rw [← HN.out]; rfl)
              have HF : Hid _ := hSy2.done HSA.out.loz HSA.out.los HSA.out.ne ⟨rfl, rfl, rfl, rfl⟩ (by show (x.1.1 ++ l).length ≤ _; rw [List.length_append]; have := HSA.out.l0; have := HBL.out.2; omega) (by have := HSA.out.l1; show x.2.1.length ≤ _; omega)
              clear hSy hSy2 C
              go_wp2_with fail
              refine HT.out _ _ ?_
              refine tail_any _ kp v sb zb W.heap.size _ _ _ _ ((x.1.1 ++ l, x.1.2), x.2) _ ⟨HF.out.dv, HF.out.cur, by have := HF.out.cnt; have := HI.out; omega, ⟨(HF.out.dv.cur HF.out.cur).1, (HF.out.dv.cur HF.out.cur).2.1⟩, (HF.out.dv.cur HF.out.cur).2.2.1, (HF.out.dv.cur HF.out.cur).2.2.2, by have := HF.out.l1; have := HI.out; omega⟩ ⟨HF.out.rs, HF.out.rz⟩ (fun _ _ _ _ _ _ _ _ _ _ _ _ _ _ _ _ _ _ _ _ _ _ _ _ _ _ _ _ _ _ _ _ _ _ _ _ _ _ _ _ _ _ _ _ _ _ _ _ _ _ _ _ _ _ _ _ _ _ _ _ _ _ _ _ _ _ _ _ _ _ _ _ _ _ _ _ _ _ _ _ _ _ _ _ _ _ _ _ _ _ _ _ _ _ _ _ _ _ _ _ _ _ _ _ _ _ _ _ _ _ _ _ _ _ _ _ _ _ _ _ _ _ _ _ _ _ _ _ _ _ _ _ _ _ _ _ _ _ _ _ _ _ _ _ _ _ _ _ _ _ _ _ _ _ _ _ _ _ _ _ w2 hb2 => ?_)
              have HF2 : Hid _ := HF.out.below hb2
              clear HF hb2
              go_wp2_with fail
              go_roundw
              case rel => exact ⟨i + 1, by go_num, ⟨by have := HI.out; omega, HI.out.1, _, _, _, _, HF2.out⟩⟩
              case measure => have := HI.out; simp [intOf]; omega
          · as_aux_lemma =>
              have hSA := HSx.out.below bA
              have C : Hid _ := Append1 hSA.dv hSA.bel.size x hSA.cur (by have := hSA.cnt; have := HI.out; omega) (.slice oa l.length cap) l (HBL.out.1.below bA) (by have := hSA.l1; have := HI.out; have := HBL.out.2; omega)
              obtain ⟨NN, hNN⟩ : ∃ NN, x.2.1.length + l.length = NN := ⟨_, rfl⟩
              have w5 : IntKind.i64.wrap ((x.2.1.length : Int) + (l.length : Int)) = (NN : Int) := by rw [IntKind.wrap_i64]; have := hSA.l1; have := HI.out; have := HBL.out.2; omega
              have HSA : Hid _ := hSA
              have HN : Hid ((x.2.1 ++ l).length = NN) := by show _ = _; rw [List.length_append]; exact hNN
              clear hSA hNN
              go_wp2_with fail
              refine Calls.mono C.out ?_
              rintro e w1 hP
              obtain ⟨lv', ms', sp', hSy⟩ := HSA.out.op hP
              obtain ⟨rfl, -⟩ := hP
              have z0 : w1.cell? ⟨zb, 1, none⟩ = some (.int .i64 (x.2.1.length : Int)) := by rw [cell_of_row _ _ _ _ _ _ hSy.rz]; rfl
              obtain ⟨fz, hSy2⟩ := hSy.setZ HSA.out.loz HSA.out.ne 1 NN (x.1, (x.2.1 ++ l, x.2.2)) ⟨rfl, rfl⟩ (by rw [← HN.out]; rfl)
              have HF : Hid _ := hSy2.done HSA.out.loz HSA.out.los HSA.out.ne ⟨rfl, rfl, rfl, rfl⟩ (by have := HSA.out.l0; show x.1.1.length ≤ _; omega) (by show (x.2.1 ++ l).length ≤ _; rw [List.length_append]; have := HSA.out.l1; have := HBL.out.2; omega)
              clear hSy hSy2 C
              go_wp2_with fail
              refine HT.out _ _ ?_
              refine tail_any _ kp v sb zb W.heap.size _ _ _ _ (x.1, (x.2.1 ++ l, x.2.2)) _ ⟨HF.out.dv, HF.out.cur, by have := HF.out.cnt; have := HI.out; omega, ⟨(HF.out.dv.cur HF.out.cur).1, (HF.out.dv.cur HF.out.cur).2.1⟩, (HF.out.dv.cur HF.out.cur).2.2.1, (HF.out.dv.cur HF.out.cur).2.2.2, by have := HF.out.l1; have := HI.out; omega⟩ ⟨HF.out.rs, HF.out.rz⟩ (fun _ _ _ _ _ _ _ _ _ _ _ _ _ _ _ _ _ _ _ _ _ _ _ _ _ _ _ _ _ _ _ _ _ _ _ _ _ _ _ _ _ _ _ _ _ _ _ _ _ _ _ _ _ _ _ _ _ _ _ _ _ _ _ _ _ _ _ _ _ _ _ _ _ _ _ _ _ _ _ _ _ _ _ _ _ _ _ _ _ _ _ _ _ _ _ _ _ _ _ _ _ _ _ _ _ _ _ _ _ _ _ _ _ _ _ _ _ _ _ _ _ _ _ _ _ _ _ _ _ _ _ _ _ _ _ _ _ _ _ _ _ _ _ _ _ _ _ _ _ _ _ _ _ _ _ _ _ _ _ _ w2 hb2 => ?_)
              have HF2 : Hid _ := HF.out.below hb2
              clear HF hb2
              go_wp2_with fail
              go_roundw
              case rel => exact ⟨i + 1, by go_num, ⟨by have := HI.out; omega, HI.out.1, _, _, _, _, HF2.out⟩⟩
              case measure => have := HI.out; simp [intOf]; omega
        · by_cases q1 : kd = 1
          · subst q1
            clear q0
            rcases hr01 with rfl | rfl
            · as_aux_lemma =>
                have hSA := HSx.out.below bA
                have C : Hid _ := Sync0 hSA.dv hSA.bel.size x hSA.cur (by have := hSA.cnt; have := HI.out; omega)
                have HSA : Hid _ := hSA
                clear hSA
                go_wp2_with fail
                refine Calls.mono C.out ?_
                rintro e w1 hP
                obtain ⟨lv', ms', sp', hSy⟩ := HSA.out.op hP
                obtain ⟨rfl, -⟩ := hP
                have z0 : w1.cell? ⟨zb, 0, none⟩ = some (.int .i64 (x.1.1.length : Int)) := by rw [cell_of_row _ _ _ _ _ _ hSy.rz]; rfl
                have y0 : w1.cell? ⟨sb, 0, none⟩ = some (.int .i64 (x.1.2 : Int)) := by rw [cell_of_row _ _ _ _ _ _ hSy.rs]; rfl
                obtain ⟨fz, hSy2⟩ := hSy.setS HSA.out.los HSA.out.ne 0 x.1.1.length ((x.1.1, x.1.1.length), x.2) ⟨rfl, rfl⟩ rfl
                have HF : Hid _ := hSy2.done HSA.out.loz HSA.out.los HSA.out.ne ⟨rfl, rfl, rfl, rfl⟩ (by have := HSA.out.l0; show x.1.1.length ≤ _; omega) (by have := HSA.out.l1; show x.2.1.length ≤ _; omega)
                clear hSy hSy2 C
                go_wp2_with fail
                refine HT.out _ _ ?_
                refine tail_any _ kp v sb zb W.heap.size _ _ _ _ ((x.1.1, x.1.1.length), x.2) _ ⟨HF.out.dv, HF.out.cur, by have := HF.out.cnt; have := HI.out; omega, ⟨(HF.out.dv.cur HF.out.cur).1, (HF.out.dv.cur HF.out.cur).2.1⟩, (HF.out.dv.cur HF.out.cur).2.2.1, (HF.out.dv.cur HF.out.cur).2.2.2, by have := HF.out.l1; have := HI.out; omega⟩ ⟨HF.out.rs, HF.out.rz⟩ (fun _ _ _ _ _ _ _ _ _ _ _ _ _ _ _ _ _ _ _ _ _ _ _ _ _ _ _ _ _ _ _ _ _ _ _ _ _ _ _ _ _ _ _ _ _ _ _ _ _ _ _ _ _ _ _ _ _ _ _ _ _ _ _ _ _ _ _ _ _ _ _ _ _ _ _ _ _ _ _ _ _ _ _ _ _ _ _ _ _ _ _ _ _ _ _ _ _ _ _ _ _ _ _ _ _ _ _ _ _ _ _ _ _ _ _ _ _ _ _ _ _ _ _ _ _ _ _ _ _ _ _ _ _ _ _ _ _ _ _ _ _ _ _ _ _ _ _ _ _ _ _ _ _ _ _ _ _ _ _ _ w2 hb2 => ?_)
                have HF2 : Hid _ := HF.out.below hb2
                clear HF hb2
                go_wp2_with fail
                go_roundw
                case rel => exact ⟨i + 1, by go_num, ⟨by have := HI.out; omega, HI.out.1, _, _, _, _, HF2.out⟩⟩
                case measure => have := HI.out; simp [intOf]; omega
            · as_aux_lemma =>
                have hSA := HSx.out.below bA
                have C : Hid _ := Sync1 hSA.dv hSA.bel.size x hSA.cur (by have := hSA.cnt; have := HI.out; omega)
                have HSA : Hid _ := hSA
                clear hSA
                go_wp2_with fail
                refine Calls.mono C.out ?_
                rintro e w1 hP
                obtain ⟨lv', ms', sp', hSy⟩ := HSA.out.op hP
                obtain ⟨rfl, -⟩ := hP
                have z0 : w1.cell? ⟨zb, 1, none⟩ = some (.int .i64 (x.2.1.length : Int)) := by rw [cell_of_row _ _ _ _ _ _ hSy.rz]; rfl
                have y0 : w1.cell? ⟨sb, 1, none⟩ = some (.int .i64 (x.2.2 : Int)) := by rw [cell_of_row _ _ _ _ _ _ hSy.rs]; rfl
                obtain ⟨fz, hSy2⟩ := hSy.setS HSA.out.los HSA.out.ne 1 x.2.1.length (x.1, (x.2.1, x.2.1.length)) ⟨rfl, rfl⟩ rfl
                have HF : Hid _ := hSy2.done HSA.out.loz HSA.out.los HSA.out.ne ⟨rfl, rfl, rfl, rfl⟩ (by have := HSA.out.l0; show x.1.1.length ≤ _; omega) (by have := HSA.out.l1; show x.2.1.length ≤ _; omega)
                clear hSy hSy2 C
                go_wp2_with fail
                refine HT.out _ _ ?_
                refine tail_any _ kp v sb zb W.heap.size _ _ _ _ (x.1, (x.2.1, x.2.1.length)) _ ⟨HF.out.dv, HF.out.cur, by have := HF.out.cnt; have := HI.out; omega, ⟨(HF.out.dv.cur HF.out.cur).1, (HF.out.dv.cur HF.out.cur).2.1⟩, (HF.out.dv.cur HF.out.cur).2.2.1, (HF.out.dv.cur HF.out.cur).2.2.2, by have := HF.out.l1; have := HI.out; omega⟩ ⟨HF.out.rs, HF.out.rz⟩ (fun _ _ _ _ _ _ _ _ _ _ _ _ _ _ _ _ _ _ _ _ _ _ _ _ _ _ _ _ _ _ _ _ _ _ _ _ _ _ _ _ _ _ _ _ _ _ _ _ _ _ _ _ _ _ _ _ _ _ _ _ _ _ _ _ _ _ _ _ _ _ _ _ _ _ _ _ _ _ _ _ _ _ _ _ _ _ _ _ _ _ _ _ _ _ _ _ _ _ _ _ _ _ _ _ _ _ _ _ _ _ _ _ _ _ _ _ _ _ _ _ _ _ _ _ _ _ _ _ _ _ _ _ _ _ _ _ _ _ _ _ _ _ _ _ _ _ _ _ _ _ _ _ _ _ _ _ _ _ _ _ w2 hb2 => ?_)
                have HF2 : Hid _ := HF.out.below hb2
                clear HF hb2
                go_wp2_with fail
                go_roundw
                case rel => exact ⟨i + 1, by go_num, ⟨by have := HI.out; omega, HI.out.1, _, _, _, _, HF2.out⟩⟩
                case measure => have := HI.out; simp [intOf]; omega
          · by_cases q2 : kd = 2
            · subst q2
              clear q0 q1
              rcases hr01 with rfl | rfl
              · as_aux_lemma =>
                  have hSA := HSx.out.below bA
                  obtain ⟨qn, hqn, -⟩ := and_ex65535 n
                  obtain ⟨Z1, hZ1⟩ : ∃ Z, x.1.1.length + 1 = Z := ⟨_, rfl⟩
                  obtain ⟨T, hT⟩ : ∃ T, qn % Z1 = T := ⟨_, rfl⟩
                  have w5 : IntKind.i64.wrap ((x.1.1.length : Int) + 1) = (Z1 : Int) := by rw [IntKind.wrap_i64]; have := hSA.l0; have := HI.out; omega
                  have z0 : ∀ q, ((wr.alloc (.cells #[.int .i64 2, .int .i64 fl, .slice oa l.length cap, .int .i64 n, .int .i64 k0, .int .i64 k1] 35)).drewN q).cell? ⟨zb, 0, none⟩ = some (.int .i64 (x.1.1.length : Int)) := fun q => by show (wr.alloc _).cell? _ = _; rw [cell_of_row _ _ _ _ _ _ hSA.rz]; rfl
                  have w6 : ¬ ((Z1 : Int) = 0) := by omega
                  have w7 : ((Z1 : Int) == 0) = false := by simp; omega
                  have w8 : ((qn : Int) % (Z1 : Int)) = (T : Int) := by rw [← hT]; rfl
                  have HZ : Hid (T ≤ x.1.1.length) := by have := Nat.mod_lt qn (show 0 < Z1 by omega); show T ≤ _; omega
                  clear hSA hZ1 hT
                  go_wp2_with fail
                  go_quiet (fail)
                  have bD : Below wr.heap.size wr ((wr.alloc (.cells #[.int .i64 2, .int .i64 fl, .slice oa l.length cap, .int .i64 n, .int .i64 k0, .int .i64 k1] 35)).drewN nq) := ⟨bA.os, bA.tape, bA.output, bA.size, bA.block⟩
                  have HSA : Hid (Sx W ((wr.alloc (.cells #[.int .i64 2, .int .i64 fl, .slice oa l.length cap, .int .i64 n, .int .i64 k0, .int .i64 k1] 35)).drewN nq) v sb zb lv zM ms sp x i) := HSx.out.below bD
                  have C : Hid _ := Cut0 HSA.out.dv HSA.out.bel.size x HSA.out.cur (by have := HSA.out.cnt; have := HI.out; omega) T HZ.out
                  clear z0 bD
                  go_wp2_with fail
                  refine Calls.mono C.out ?_
                  rintro e w1 hP
                  obtain ⟨lv', ms', sp', hSy⟩ := HSA.out.op hP
                  obtain ⟨rfl, -⟩ := hP
                  have hlT : (x.1.1.take T).length = T := by rw [List.length_take]; have := HZ.out; omega
                  have z0 : w1.cell? ⟨zb, 0, none⟩ = some (.int .i64 (x.1.1.length : Int)) := by rw [cell_of_row _ _ _ _ _ _ hSy.rz]; rfl
                  obtain ⟨fz, hSy2⟩ := hSy.setZ HSA.out.loz HSA.out.ne 0 T ((x.1.1.take T, x.1.2), x.2) ⟨rfl, rfl⟩ (by show _ = #[Value.int .i64 ((x.1.1.take T).length : Int), Value.int .i64 (x.2.1.length : Int)]; rw [hlT]; rfl)
                  have y0 : (w1.setCell ⟨zb, 0, none⟩ (.int .i64 (T : Int))).cell? ⟨sb, 0, none⟩ = some (.int .i64 (x.1.2 : Int)) := by rw [cell_of_row _ _ _ _ _ _ hSy2.rs]; rfl
                  have hbl0 : (x.1.1.take T).length ≤ 3 + 300 * (i + 1) := by have := HSA.out.l0; have := HZ.out; rw [hlT]; omega
                  have hbl1 : x.2.1.length ≤ 3 + 300 * (i + 1) := by have := HSA.out.l1; have := HZ.out;  omega
                  by_cases hlt : T < x.1.2
                  · have hlt' : (T : Int) < (x.1.2 : Int) := by omega
                    obtain ⟨fs, hSy3⟩ := hSy2.setS HSA.out.los HSA.out.ne 0 T ((x.1.1.take T, min x.1.2 T), x.2) ⟨rfl, rfl⟩ (by show _ = #[Value.int .i64 ((min x.1.2 T : Nat) : Int), Value.int .i64 (x.2.2 : Int)]; rw [Nat.min_eq_right (by omega)]; rfl)
                    have HF : Hid _ := hSy3.done HSA.out.loz HSA.out.los HSA.out.ne ⟨rfl, rfl, rfl, rfl⟩ hbl0 hbl1
                    clear hSy hSy2 hSy3 C hlT hbl0 hbl1
                    go_wp2_with fail
                    refine HT.out _ _ ?_
                    refine tail_any _ kp v sb zb W.heap.size _ _ _ _ ((x.1.1.take T, min x.1.2 T), x.2) _ ⟨HF.out.dv, HF.out.cur, by have := HF.out.cnt; have := HI.out; omega, ⟨(HF.out.dv.cur HF.out.cur).1, (HF.out.dv.cur HF.out.cur).2.1⟩, (HF.out.dv.cur HF.out.cur).2.2.1, (HF.out.dv.cur HF.out.cur).2.2.2, by have := HF.out.l1; have := HI.out; omega⟩ ⟨HF.out.rs, HF.out.rz⟩ (fun _ _ _ _ _ _ _ _ _ _ _ _ _ _ _ _ _ _ _ _ _ _ _ _ _ _ _ _ _ _ _ _ _ _ _ _ _ _ _ _ _ _ _ _ _ _ _ _ _ _ _ _ _ _ _ _ _ _ _ _ _ _ _ _ _ _ _ _ _ _ _ _ _ _ _ _ _ _ _ _ _ _ _ _ _ _ _ _ _ _ _ _ _ _ _ _ _ _ _ _ _ _ _ _ _ _ _ _ _ _ _ _ _ _ _ _ _ _ _ _ _ _ _ _ _ _ _ _ _ _ _ _ _ _ _ _ _ _ _ _ _ _ _ _ _ _ _ _ _ _ _ _ _ _ _ _ _ _ _ _ w2 hb2 => ?_)
                    have HF2 : Hid _ := HF.out.below hb2
                    clear HF hb2
                    go_wp2_with fail
                    go_roundw
                    case rel => exact ⟨i + 1, by go_num, ⟨by have := HI.out; omega, HI.out.1, _, _, _, _, HF2.out⟩⟩
                    case measure => have := HI.out; simp [intOf]; omega
                  · have hlt' : ¬ ((T : Int) < (x.1.2 : Int)) := by omega
                    have hmn : x.1.2 = min x.1.2 T := (Nat.min_eq_left (show x.1.2 ≤ T by omega)).symm
                    have HF : Hid _ := hSy2.done HSA.out.loz HSA.out.los HSA.out.ne (y := ((x.1.1.take T, min x.1.2 T), x.2)) ⟨hmn, rfl, rfl, rfl⟩ hbl0 hbl1
                    clear hmn
                    clear hSy hSy2 C hlT hbl0 hbl1
                    go_wp2_with fail
                    refine HT.out _ _ ?_
                    refine tail_any _ kp v sb zb W.heap.size _ _ _ _ ((x.1.1.take T, min x.1.2 T), x.2) _ ⟨HF.out.dv, HF.out.cur, by have := HF.out.cnt; have := HI.out; omega, ⟨(HF.out.dv.cur HF.out.cur).1, (HF.out.dv.cur HF.out.cur).2.1⟩, (HF.out.dv.cur HF.out.cur).2.2.1, (HF.out.dv.cur HF.out.cur).2.2.2, by have := HF.out.l1; have := HI.out; omega⟩ ⟨HF.out.rs, HF.out.rz⟩ (fun _ _ _ _ _ _ _ _ _ _ _ _ _ _ _ _ _ _ _ _ _ _ _ _ _ _ _ _ _ _ _ _ _ _ _ _ _ _ _ _ _ _ _ _ _ _ _ _ _ _ _ _ _ _ _ _ _ _ _ _ _ _ _ _ _ _ _ _ _ _ _ _ _ _ _ _ _ _ _ _ _ _ _ _ _ _ _ _ _ _ _ _ _ _ _ _ _ _ _ _ _ _ _ _ _ _ _ _ _ _ _ _ _ _ _ _ _ _ _ _ _ _ _ _ _ _ _ _ _ _ _ _ _ _ _ _ _ _ _ _ _ _ _ _ _ _ _ _ _ _ _ _ _ _ _ _ _ _ _ _ w2 hb2 => ?_)
                    have HF2 : Hid _ := HF.out.below hb2
                    clear HF hb2
                    go_wp2_with fail
                    go_roundw
                    case rel => exact ⟨i + 1, by go_num, ⟨by have := HI.out; omega, HI.out.1, _, _, _, _, HF2.out⟩⟩
                    case measure => have := HI.out; simp [intOf]; omega
              · as_aux_lemma =>
                  have hSA := HSx.out.below bA
                  obtain ⟨qn, hqn, -⟩ := and_ex65535 n
                  obtain ⟨Z1, hZ1⟩ : ∃ Z, x.2.1.length + 1 = Z := ⟨_, rfl⟩
                  obtain ⟨T, hT⟩ : ∃ T, qn % Z1 = T := ⟨_, rfl⟩
                  have w5 : IntKind.i64.wrap ((x.2.1.length : Int) + 1) = (Z1 : Int) := by rw [IntKind.wrap_i64]; have := hSA.l1; have := HI.out; omega
                  have z0 : ∀ q, ((wr.alloc (.cells #[.int .i64 2, .int .i64 fl, .slice oa l.length cap, .int .i64 n, .int .i64 k0, .int .i64 k1] 35)).drewN q).cell? ⟨zb, 1, none⟩ = some (.int .i64 (x.2.1.length : Int)) := fun q => by show (wr.alloc _).cell? _ = _; rw [cell_of_row _ _ _ _ _ _ hSA.rz]; rfl
                  have w6 : ¬ ((Z1 : Int) = 0) := by omega
                  have w7 : ((Z1 : Int) == 0) = false := by simp; omega
                  have w8 : ((qn : Int) % (Z1 : Int)) = (T : Int) := by rw [← hT]; rfl
                  have HZ : Hid (T ≤ x.2.1.length) := by have := Nat.mod_lt qn (show 0 < Z1 by omega); show T ≤ _; omega
                  clear hSA hZ1 hT
                  go_wp2_with fail
                  go_quiet (fail)
                  have bD : Below wr.heap.size wr ((wr.alloc (.cells #[.int .i64 2, .int .i64 fl, .slice oa l.length cap, .int .i64 n, .int .i64 k0, .int .i64 k1] 35)).drewN nq) := ⟨bA.os, bA.tape, bA.output, bA.size, bA.block⟩
                  have HSA : Hid (Sx W ((wr.alloc (.cells #[.int .i64 2, .int .i64 fl, .slice oa l.length cap, .int .i64 n, .int .i64 k0, .int .i64 k1] 35)).drewN nq) v sb zb lv zM ms sp x i) := HSx.out.below bD
                  have C : Hid _ := Cut1 HSA.out.dv HSA.out.bel.size x HSA.out.cur (by have := HSA.out.cnt; have := HI.out; omega) T HZ.out
                  clear z0 bD
                  go_wp2_with fail
                  refine Calls.mono C.out ?_
                  rintro e w1 hP
                  obtain ⟨lv', ms', sp', hSy⟩ := HSA.out.op hP
                  obtain ⟨rfl, -⟩ := hP
                  have hlT : (x.2.1.take T).length = T := by rw [List.length_take]; have := HZ.out; omega
                  have z0 : w1.cell? ⟨zb, 1, none⟩ = some (.int .i64 (x.2.1.length : Int)) := by rw [cell_of_row _ _ _ _ _ _ hSy.rz]; rfl
                  obtain ⟨fz, hSy2⟩ := hSy.setZ HSA.out.loz HSA.out.ne 1 T (x.1, (x.2.1.take T, x.2.2)) ⟨rfl, rfl⟩ (by show _ = #[Value.int .i64 (x.1.1.length : Int), Value.int .i64 ((x.2.1.take T).length : Int)]; rw [hlT]; rfl)
                  have y0 : (w1.setCell ⟨zb, 1, none⟩ (.int .i64 (T : Int))).cell? ⟨sb, 1, none⟩ = some (.int .i64 (x.2.2 : Int)) := by rw [cell_of_row _ _ _ _ _ _ hSy2.rs]; rfl
                  have hbl0 : x.1.1.length ≤ 3 + 300 * (i + 1) := by have := HSA.out.l0; have := HZ.out;  omega
                  have hbl1 : (x.2.1.take T).length ≤ 3 + 300 * (i + 1) := by have := HSA.out.l1; have := HZ.out; rw [hlT]; omega
                  by_cases hlt : T < x.2.2
                  · have hlt' : (T : Int) < (x.2.2 : Int) := by omega
                    obtain ⟨fs, hSy3⟩ := hSy2.setS HSA.out.los HSA.out.ne 1 T (x.1, (x.2.1.take T, min x.2.2 T)) ⟨rfl, rfl⟩ (by show _ = #[Value.int .i64 (x.1.2 : Int), Value.int .i64 ((min x.2.2 T : Nat) : Int)]; rw [Nat.min_eq_right (by omega)]; rfl)
                    have HF : Hid _ := hSy3.done HSA.out.loz HSA.out.los HSA.out.ne ⟨rfl, rfl, rfl, rfl⟩ hbl0 hbl1
                    clear hSy hSy2 hSy3 C hlT hbl0 hbl1
                    go_wp2_with fail
                    refine HT.out _ _ ?_
                    refine tail_any _ kp v sb zb W.heap.size _ _ _ _ (x.1, (x.2.1.take T, min x.2.2 T)) _ ⟨HF.out.dv, HF.out.cur, by have := HF.out.cnt; have := HI.out; omega, ⟨(HF.out.dv.cur HF.out.cur).1, (HF.out.dv.cur HF.out.cur).2.1⟩, (HF.out.dv.cur HF.out.cur).2.2.1, (HF.out.dv.cur HF.out.cur).2.2.2, by have := HF.out.l1; have := HI.out; omega⟩ ⟨HF.out.rs, HF.out.rz⟩ (fun _ _ _ _ _ _ _ _ _ _ _ _ _ _ _ _ _ _ _ _ _ _ _ _ _ _ _ _ _ _ _ _ _ _ _ _ _ _ _ _ _ _ _ _ _ _ _ _ _ _ _ _ _ _ _ _ _ _ _ _ _ _ _ _ _ _ _ _ _ _ _ _ _ _ _ _ _ _ _ _ _ _ _ _ _ _ _ _ _ _ _ _ _ _ _ _ _ _ _ _ _ _ _ _ _ _ _ _ _ _ _ _ _ _ _ _ _ _ _ _ _ _ _ _ _ _ _ _ _ _ _ _ _ _ _ _ _ _ _ _ _ _ _ _ _ _ _ _ _ _ _ _ _ _ _ _ _ _ _ _ w2 hb2 => ?_)
                    have HF2 : Hid _ := HF.out.below hb2
                    clear HF hb2
                    go_wp2_with fail
                    go_roundw
                    case rel => exact ⟨i + 1, by go_num, ⟨by have := HI.out; omega, HI.out.1, _, _, _, _, HF2.out⟩⟩
                    case measure => have := HI.out; simp [intOf]; omega
                  · have hlt' : ¬ ((T : Int) < (x.2.2 : Int)) := by omega
                    have hmn : x.2.2 = min x.2.2 T := (Nat.min_eq_left (show x.2.2 ≤ T by omega)).symm
                    have HF : Hid _ := hSy2.done HSA.out.loz HSA.out.los HSA.out.ne (y := (x.1, (x.2.1.take T, min x.2.2 T))) ⟨rfl, hmn, rfl, rfl⟩ hbl0 hbl1
                    clear hmn
                    clear hSy hSy2 C hlT hbl0 hbl1
                    go_wp2_with fail
                    refine HT.out _ _ ?_
                    refine tail_any _ kp v sb zb W.heap.size _ _ _ _ (x.1, (x.2.1.take T, min x.2.2 T)) _ ⟨HF.out.dv, HF.out.cur, by have := HF.out.cnt; have := HI.out; omega, ⟨(HF.out.dv.cur HF.out.cur).1, (HF.out.dv.cur HF.out.cur).2.1⟩, (HF.out.dv.cur HF.out.cur).2.2.1, (HF.out.dv.cur HF.out.cur).2.2.2, by have := HF.out.l1; have := HI.out; omega⟩ ⟨HF.out.rs, HF.out.rz⟩ (fun _ _ _ _ _ _ _ _ _ _ _ _ _ _ _ _ _ _ _ _ _ _ _ _ _ _ _ _ _ _ _ _ _ _ _ _ _ _ _ _ _ _ _ _ _ _ _ _ _ _ _ _ _ _ _ _ _ _ _ _ _ _ _ _ _ _ _ _ _ _ _ _ _ _ _ _ _ _ _ _ _ _ _ _ _ _ _ _ _ _ _ _ _ _ _ _ _ _ _ _ _ _ _ _ _ _ _ _ _ _ _ _ _ _ _ _ _ _ _ _ _ _ _ _ _ _ _ _ _ _ _ _ _ _ _ _ _ _ _ _ _ _ _ _ _ _ _ _ _ _ _ _ _ _ _ _ _ _ _ _ w2 hb2 => ?_)
                    have HF2 : Hid _ := HF.out.below hb2
                    clear HF hb2
                    go_wp2_with fail
                    go_roundw
                    case rel => exact ⟨i + 1, by go_num, ⟨by have := HI.out; omega, HI.out.1, _, _, _, _, HF2.out⟩⟩
                    case measure => have := HI.out; simp [intOf]; omega
            · as_aux_lemma =>
                have HF2 : Hid _ := (HSx.out.below bA).more (Nat.le_succ i)
                go_wp2_with fail
                go_roundw
                case rel => exact ⟨i + 1, by go_num, ⟨by have := HI.out; omega, HI.out.1, _, _, _, _, HF2.out⟩⟩
                case measure => have := HI.out; simp [intOf]; omega
      · have hl3 : (300 : Int) < (l.length : Int) := by omega
        have hl4 : 300 < l.length := by omega
        have hsl : ∀ w, (slB (.slice oa l.length cap) none (some (.int .i64 300)) none).run Try.prog w = .ok (.slice oa 300 cap) w := fun w => run_slh w oa l.length cap 300 (by obtain ⟨_, _, he, h2, _⟩ := HBl.out; injection he with e1 e2 e3; omega)
        have HBL : Hid (Bl wr (.slice oa 300 cap) (l.take 300) ∧ 300 ≤ 300 ∧ (l.take 300).length = 300) := ⟨HBl.out.take 300 (by omega), by omega, by rw [List.length_take]; omega⟩
        clear hl
        go_upto_region 15 with fail
        rename_i Qo K4 h4 Q3 K3 h3 K2 h2 K1 h1
        have HT : Hid (∀ a w, Code.wp Try.prog tail28 (Exit.inBlock 1 (Exit.then K3 Q3)) a w → K2 a w) := h2
        clear h2
        have bA : Below wr.heap.size wr (wr.alloc (.cells #[.int .i64 kd, .int .i64 fl, .slice oa l.length cap, .int .i64 n, .int .i64 k0, .int .i64 k1] 35)) := (Below.refl _ wr).alloc (Nat.le_refl _) _
        by_cases q0 : kd = 0
        · subst q0
          rcases hr01 with rfl | rfl
          · as_aux_lemma =>
              have hSA := HSx.out.below bA
              have C : Hid _ := Append0 hSA.dv hSA.bel.size x hSA.cur (by have := hSA.cnt; have := HI.out; omega) (.slice oa 300 cap) (l.take 300) (HBL.out.1.below bA) (by have := hSA.l0; have := HI.out; have := HBL.out.2; omega)
              obtain ⟨NN, hNN⟩ : ∃ NN, x.1.1.length + 300 = NN := ⟨_, rfl⟩
              have w5 : IntKind.i64.wrap ((x.1.1.length : Int) + (300 : Int)) = (NN : Int) := by rw [IntKind.wrap_i64]; have := hSA.l0; have := HI.out; have := HBL.out.2; omega
              have HSA : Hid _ := hSA
              have HN : Hid ((x.1.1 ++ (l.take 300)).length = NN) := by show _ = _; rw [List.length_append, HBL.out.2.2]; exact hNN
              clear hSA hNN
              go_wp2_with fail
              refine Calls.mono C.out ?_
              rintro e w1 hP
              obtain ⟨lv', ms', sp', hSy⟩ := HSA.out.op hP
              obtain ⟨rfl, -⟩ := hP
              have z0 : w1.cell? ⟨zb, 0, none⟩ = some (.int .i64 (x.1.1.length : Int)) := by rw [cell_of_row _ _ _ _ _ _ hSy.rz]; rfl
              obtain ⟨fz, hSy2⟩ := hSy.setZ HSA.out.loz HSA.out.ne 0 NN ((x.1.1 ++ (l.take 300), x.1.2), x.2) ⟨rfl, rfl⟩ (by rw [← HN.out]; rfl)
              have HF : Hid _ := hSy2.done HSA.out.loz HSA.out.los HSA.out.ne ⟨rfl, rfl, rfl, rfl⟩ (by show (x.1.1 ++ (l.take 300)).length ≤ _; rw [List.length_append]; have := HSA.out.l0; have := HBL.out.2; omega) (by have := HSA.out.l1; show x.2.1.length ≤ _; omega)
              clear hSy hSy2 C
              go_wp2_with fail
              refine HT.out _ _ ?_
              refine tail_any _ kp v sb zb W.heap.size _ _ _ _ ((x.1.1 ++ (l.take 300), x.1.2), x.2) _ ⟨HF.out.dv, HF.out.cur, by have := HF.out.cnt; have := HI.out; omega, ⟨(HF.out.dv.cur HF.out.cur).1, (HF.out.dv.cur HF.out.cur).2.1⟩, (HF.out.dv.cur HF.out.cur).2.2.1, (HF.out.dv.cur HF.out.cur).2.2.2, by have := HF.out.l1; have := HI.out; omega⟩ ⟨HF.out.rs, HF.out.rz⟩ (fun _ _ _ _ _ _ _ _ _ _ _ _ _ _ _ _ _ _ _ _ _ _ _ _ _ _ _ _ _ _ _ _ _ _ _ _ _ _ _ _ _ _ _ _ _ _ _ _ _ _ _ _ _ _ _ _ _ _ _ _ _ _ _ _ _ _ _ _ _ _ _ _ _ _ _ _ _ _ _ _ _ _ _ _ _ _ _ _ _ _ _ _ _ _ _ _ _ _ _ _ _ _ _ _ _ _ _ _ _ _ _ _ _ _ _ _ _ _ _ _ _ _ _ _ _ _ _ _ _ _ _ _ _ _ _ _ _ _ _ _ _ _ _ _ _ _ _ _ _ _ _ _ _ _ _ _ _ _ _ _ w2 hb2 => ?_)
              have HF2 : Hid _ := HF.out.below hb2
              clear HF hb2
              go_wp2_with fail
              go_roundw
              case rel => exact ⟨i + 1, by go_num, ⟨by have := HI.out; omega, HI.out.1, _, _, _, _, HF2.out⟩⟩
              case measure => have := HI.out; simp [intOf]; omega
          · as_aux_lemma =>
              have hSA := HSx.out.below bA
              have C : Hid _ := Append1 hSA.dv hSA.bel.size x hSA.cur (by have := hSA.cnt; have := HI.out; omega) (.slice oa 300 cap) (l.take 300) (HBL.out.1.below bA) (by have := hSA.l1; have := HI.out; have := HBL.out.2; omega)
              obtain ⟨NN, hNN⟩ : ∃ NN, x.2.1.length + 300 = NN := ⟨_, rfl⟩
              have w5 : IntKind.i64.wrap ((x.2.1.length : Int) + (300 : Int)) = (NN : Int) := by rw [IntKind.wrap_i64]; have := hSA.l1; have := HI.out; have := HBL.out.2; omega
              have HSA : Hid _ := hSA
              have HN : Hid ((x.2.1 ++ (l.take 300)).length = NN) := by show _ = _; rw [List.length_append, HBL.out.2.2]; exact hNN
              clear hSA hNN
              go_wp2_with fail
              refine Calls.mono C.out ?_
              rintro e w1 hP
              obtain ⟨lv', ms', sp', hSy⟩ := HSA.out.op hP
              obtain ⟨rfl, -⟩ := hP
              have z0 : w1.cell? ⟨zb, 1, none⟩ = some (.int .i64 (x.2.1.length : Int)) := by rw [cell_of_row _ _ _ _ _ _ hSy.rz]; rfl
              obtain ⟨fz, hSy2⟩ := hSy.setZ HSA.out.loz HSA.out.ne 1 NN (x.1, (x.2.1 ++ (l.take 300), x.2.2)) ⟨rfl, rfl⟩ (by rw [← HN.out]; rfl)
              have HF : Hid _ := hSy2.done HSA.out.loz HSA.out.los HSA.out.ne ⟨rfl, rfl, rfl, rfl⟩ (by have := HSA.out.l0; show x.1.1.length ≤ _; omega) (by show (x.2.1 ++ (l.take 300)).length ≤ _; rw [List.length_append]; have := HSA.out.l1; have := HBL.out.2; omega)
              clear hSy hSy2 C
              go_wp2_with fail
              refine HT.out _ _ ?_
              refine tail_any _ kp v sb zb W.heap.size _ _ _ _ (x.1, (x.2.1 ++ (l.take 300), x.2.2)) _ ⟨HF.out.dv, HF.out.cur, by have := HF.out.cnt; have := HI.out; omega, ⟨(HF.out.dv.cur HF.out.cur).1, (HF.out.dv.cur HF.out.cur).2.1⟩, (HF.out.dv.cur HF.out.cur).2.2.1, (HF.out.dv.cur HF.out.cur).2.2.2, by have := HF.out.l1; have := HI.out; omega⟩ ⟨HF.out.rs, HF.out.rz⟩ (fun _ _ _ _ _ _ _ _ _ _ _ _ _ _ _ _ _ _ _ _ _ _ _ _ _ _ _ _ _ _ _ _ _ _ _ _ _ _ _ _ _ _ _ _ _ _ _ _ _ _ _ _ _ _ _ _ _ _ _ _ _ _ _ _ _ _ _ _ _ _ _ _ _ _ _ _ _ _ _ _ _ _ _ _ _ _ _ _ _ _ _ _ _ _ _ _ _ _ _ _ _ _ _ _ _ _ _ _ _ _ _ _ _ _ _ _ _ _ _ _ _ _ _ _ _ _ _ _ _ _ _ _ _ _ _ _ _ _ _ _ _ _ _ _ _ _ _ _ _ _ _ _ _ _ _ _ _ _ _ _ w2 hb2 => ?_)
              have HF2 : Hid _ := HF.out.below hb2
              clear HF hb2
              go_wp2_with fail
              go_roundw
              case rel => exact ⟨i + 1, by go_num, ⟨by have := HI.out; omega, HI.out.1, _, _, _, _, HF2.out⟩⟩
              case measure => have := HI.out; simp [intOf]; omega
        · by_cases q1 : kd = 1
          · subst q1
            clear q0
            rcases hr01 with rfl | rfl
            · as_aux_lemma =>
                have hSA := HSx.out.below bA
                have C : Hid _ := Sync0 hSA.dv hSA.bel.size x hSA.cur (by have := hSA.cnt; have := HI.out; omega)
                have HSA : Hid _ := hSA
                clear hSA
                go_wp2_with fail
                refine Calls.mono C.out ?_
                rintro e w1 hP
                obtain ⟨lv', ms', sp', hSy⟩ := HSA.out.op hP
                obtain ⟨rfl, -⟩ := hP
                have z0 : w1.cell? ⟨zb, 0, none⟩ = some (.int .i64 (x.1.1.length : Int)) := by rw [cell_of_row _ _ _ _ _ _ hSy.rz]; rfl
                have y0 : w1.cell? ⟨sb, 0, none⟩ = some (.int .i64 (x.1.2 : Int)) := by rw [cell_of_row _ _ _ _ _ _ hSy.rs]; rfl
                obtain ⟨fz, hSy2⟩ := hSy.setS HSA.out.los HSA.out.ne 0 x.1.1.length ((x.1.1, x.1.1.length), x.2) ⟨rfl, rfl⟩ rfl
                have HF : Hid _ := hSy2.done HSA.out.loz HSA.out.los HSA.out.ne ⟨rfl, rfl, rfl, rfl⟩ (by have := HSA.out.l0; show x.1.1.length ≤ _; omega) (by have := HSA.out.l1; show x.2.1.length ≤ _; omega)
                clear hSy hSy2 C
                go_wp2_with fail
                refine HT.out _ _ ?_
                refine tail_any _ kp v sb zb W.heap.size _ _ _ _ ((x.1.1, x.1.1.length), x.2) _ ⟨HF.out.dv, HF.out.cur, by have := HF.out.cnt; have := HI.out; omega, ⟨(HF.out.dv.cur HF.out.cur).1, (HF.out.dv.cur HF.out.cur).2.1⟩, (HF.out.dv.cur HF.out.cur).2.2.1, (HF.out.dv.cur HF.out.cur).2.2.2, by have := HF.out.l1; have := HI.out; omega⟩ ⟨HF.out.rs, HF.out.rz⟩ (fun _ _ _ _ _ _ _ _ _ _ _ _ _ _ _ _ _ _ _ _ _ _ _ _ _ _ _ _ _ _ _ _ _ _ _ _ _ _ _ _ _ _ _ _ _ _ _ _ _ _ _ _ _ _ _ _ _ _ _ _ _ _ _ _ _ _ _ _ _ _ _ _ _ _ _ _ _ _ _ _ _ _ _ _ _ _ _ _ _ _ _ _ _ _ _ _ _ _ _ _ _ _ _ _ _ _ _ _ _ _ _ _ _ _ _ _ _ _ _ _ _ _ _ _ _ _ _ _ _ _ _ _ _ _ _ _ _ _ _ _ _ _ _ _ _ _ _ _ _ _ _ _ _ _ _ _ _ _ _ _ w2 hb2 => ?_)
                have HF2 : Hid _ := HF.out.below hb2
                clear HF hb2
                go_wp2_with fail
                go_roundw
                case rel => exact ⟨i + 1, by go_num, ⟨by have := HI.out; omega, HI.out.1, _, _, _, _, HF2.out⟩⟩
                case measure => have := HI.out; simp [intOf]; omega
            · as_aux_lemma =>
                have hSA := HSx.out.below bA
                have C : Hid _ := Sync1 hSA.dv hSA.bel.size x hSA.cur (by have := hSA.cnt; have := HI.out; omega)
                have HSA : Hid _ := hSA
                clear hSA
                go_wp2_with fail
                refine Calls.mono C.out ?_
                rintro e w1 hP
                obtain ⟨lv', ms', sp', hSy⟩ := HSA.out.op hP
                obtain ⟨rfl, -⟩ := hP
                have z0 : w1.cell? ⟨zb, 1, none⟩ = some (.int .i64 (x.2.1.length : Int)) := by rw [cell_of_row _ _ _ _ _ _ hSy.rz]; rfl
                have y0 : w1.cell? ⟨sb, 1, none⟩ = some (.int .i64 (x.2.2 : Int)) := by rw [cell_of_row _ _ _ _ _ _ hSy.rs]; rfl
                obtain ⟨fz, hSy2⟩ := hSy.setS HSA.out.los HSA.out.ne 1 x.2.1.length (x.1, (x.2.1, x.2.1.length)) ⟨rfl, rfl⟩ rfl
                have HF : Hid _ := hSy2.done HSA.out.loz HSA.out.los HSA.out.ne ⟨rfl, rfl, rfl, rfl⟩ (by have := HSA.out.l0; show x.1.1.length ≤ _; omega) (by have := HSA.out.l1; show x.2.1.length ≤ _; omega)
                clear hSy hSy2 C
                go_wp2_with fail
                refine HT.out _ _ ?_
                refine tail_any _ kp v sb zb W.heap.size _ _ _ _ (x.1, (x.2.1, x.2.1.length)) _ ⟨HF.out.dv, HF.out.cur, by have := HF.out.cnt; have := HI.out; omega, ⟨(HF.out.dv.cur HF.out.cur).1, (HF.out.dv.cur HF.out.cur).2.1⟩, (HF.out.dv.cur HF.out.cur).2.2.1, (HF.out.dv.cur HF.out.cur).2.2.2, by have := HF.out.l1; have := HI.out; omega⟩ ⟨HF.out.rs, HF.out.rz⟩ (fun _ _ _ _ _ _ _ _ _ _ _ _ _ _ _ _ _ _ _ _ _ _ _ _ _ _ _ _ _ _ _ _ _ _ _ _ _ _ _ _ _ _ _ _ _ _ _ _ _ _ _ _ _ _ _ _ _ _ _ _ _ _ _ _ _ _ _ _ _ _ _ _ _ _ _ _ _ _ _ _ _ _ _ _ _ _ _ _ _ _ _ _ _ _ _ _ _ _ _ _ _ _ _ _ _ _ _ _ _ _ _ _ _ _ _ _ _ _ _ _ _ _ _ _ _ _ _ _ _ _ _ _ _ _ _ _ _ _ _ _ _ _ _ _ _ _ _ _ _ _ _ _ _ _ _ _ _ _ _ _ w2 hb2 => ?_)
                have HF2 : Hid _ := HF.out.below hb2
                clear HF hb2
                go_wp2_with fail
                go_roundw
                case rel => exact ⟨i + 1, by go_num, ⟨by have := HI.out; omega, HI.out.1, _, _, _, _, HF2.out⟩⟩
                case measure => have := HI.out; simp [intOf]; omega
          · by_cases q2 : kd = 2
            · subst q2
              clear q0 q1
              rcases hr01 with rfl | rfl
              · as_aux_lemma =>
                  have hSA := HSx.out.below bA
                  obtain ⟨qn, hqn, -⟩ := and_ex65535 n
                  obtain ⟨Z1, hZ1⟩ : ∃ Z, x.1.1.length + 1 = Z := ⟨_, rfl⟩
                  obtain ⟨T, hT⟩ : ∃ T, qn % Z1 = T := ⟨_, rfl⟩
                  have w5 : IntKind.i64.wrap ((x.1.1.length : Int) + 1) = (Z1 : Int) := by rw [IntKind.wrap_i64]; have := hSA.l0; have := HI.out; omega
                  have z0 : ∀ q, ((wr.alloc (.cells #[.int .i64 2, .int .i64 fl, .slice oa l.length cap, .int .i64 n, .int .i64 k0, .int .i64 k1] 35)).drewN q).cell? ⟨zb, 0, none⟩ = some (.int .i64 (x.1.1.length : Int)) := fun q => by show (wr.alloc _).cell? _ = _; rw [cell_of_row _ _ _ _ _ _ hSA.rz]; rfl
                  have w6 : ¬ ((Z1 : Int) = 0) := by omega
                  have w7 : ((Z1 : Int) == 0) = false := by simp; omega
                  have w8 : ((qn : Int) % (Z1 : Int)) = (T : Int) := by rw [← hT]; rfl
                  have HZ : Hid (T ≤ x.1.1.length) := by have := Nat.mod_lt qn (show 0 < Z1 by omega); show T ≤ _; omega
                  clear hSA hZ1 hT
                  go_wp2_with fail
                  go_quiet (fail)
                  have bD : Below wr.heap.size wr ((wr.alloc (.cells #[.int .i64 2, .int .i64 fl, .slice oa l.length cap, .int .i64 n, .int .i64 k0, .int .i64 k1] 35)).drewN nq) := ⟨bA.os, bA.tape, bA.output, bA.size, bA.block⟩
                  have HSA : Hid (Sx W ((wr.alloc (.cells #[.int .i64 2, .int .i64 fl, .slice oa l.length cap, .int .i64 n, .int .i64 k0, .int .i64 k1] 35)).drewN nq) v sb zb lv zM ms sp x i) := HSx.out.below bD
                  have C : Hid _ := Cut0 HSA.out.dv HSA.out.bel.size x HSA.out.cur (by have := HSA.out.cnt; have := HI.out; omega) T HZ.out
                  clear z0 bD
                  go_wp2_with fail
                  refine Calls.mono C.out ?_
                  rintro e w1 hP
                  obtain ⟨lv', ms', sp', hSy⟩ := HSA.out.op hP
                  obtain ⟨rfl, -⟩ := hP
                  have hlT : (x.1.1.take T).length = T := by rw [List.length_take]; have := HZ.out; omega
                  have z0 : w1.cell? ⟨zb, 0, none⟩ = some (.int .i64 (x.1.1.length : Int)) := by rw [cell_of_row _ _ _ _ _ _ hSy.rz]; rfl
                  obtain ⟨fz, hSy2⟩ := hSy.setZ HSA.out.loz HSA.out.ne 0 T ((x.1.1.take T, x.1.2), x.2) ⟨rfl, rfl⟩ (by show _ = #[Value.int .i64 ((x.1.1.take T).length : Int), Value.int .i64 (x.2.1.length : Int)]; rw [hlT]; rfl)
                  have y0 : (w1.setCell ⟨zb, 0, none⟩ (.int .i64 (T : Int))).cell? ⟨sb, 0, none⟩ = some (.int .i64 (x.1.2 : Int)) := by rw [cell_of_row _ _ _ _ _ _ hSy2.rs]; rfl
                  have hbl0 : (x.1.1.take T).length ≤ 3 + 300 * (i + 1) := by have := HSA.out.l0; have := HZ.out; rw [hlT]; omega
                  have hbl1 : x.2.1.length ≤ 3 + 300 * (i + 1) := by have := HSA.out.l1; have := HZ.out;  omega
                  by_cases hlt : T < x.1.2
                  · have hlt' : (T : Int) < (x.1.2 : Int) := by omega
                    obtain ⟨fs, hSy3⟩ := hSy2.setS HSA.out.los HSA.out.ne 0 T ((x.1.1.take T, min x.1.2 T), x.2) ⟨rfl, rfl⟩ (by show _ = #[Value.int .i64 ((min x.1.2 T : Nat) : Int), Value.int .i64 (x.2.2 : Int)]; rw [Nat.min_eq_right (by omega)]; rfl)
                    have HF : Hid _ := hSy3.done HSA.out.loz HSA.out.los HSA.out.ne ⟨rfl, rfl, rfl, rfl⟩ hbl0 hbl1
                    clear hSy hSy2 hSy3 C hlT hbl0 hbl1
                    go_wp2_with fail
                    refine HT.out _ _ ?_
                    refine tail_any _ kp v sb zb W.heap.size _ _ _ _ ((x.1.1.take T, min x.1.2 T), x.2) _ ⟨HF.out.dv, HF.out.cur, by have := HF.out.cnt; have := HI.out; omega, ⟨(HF.out.dv.cur HF.out.cur).1, (HF.out.dv.cur HF.out.cur).2.1⟩, (HF.out.dv.cur HF.out.cur).2.2.1, (HF.out.dv.cur HF.out.cur).2.2.2, by have := HF.out.l1; have := HI.out; omega⟩ ⟨HF.out.rs, HF.out.rz⟩ (fun _ _ _ _ _ _ _ _ _ _ _ _ _ _ _ _ _ _ _ _ _ _ _ _ _ _ _ _ _ _ _ _ _ _ _ _ _ _ _ _ _ _ _ _ _ _ _ _ _ _ _ _ _ _ _ _ _ _ _ _ _ _ _ _ _ _ _ _ _ _ _ _ _ _ _ _ _ _ _ _ _ _ _ _ _ _ _ _ _ _ _ _ _ _ _ _ _ _ _ _ _ _ _ _ _ _ _ _ _ _ _ _ _ _ _ _ _ _ _ _ _ _ _ _ _ _ _ _ _ _ _ _ _ _ _ _ _ _ _ _ _ _ _ _ _ _ _ _ _ _ _ _ _ _ _ _ _ _ _ _ w2 hb2 => ?_)
                    have HF2 : Hid _ := HF.out.below hb2
                    clear HF hb2
                    go_wp2_with fail
                    go_roundw
                    case rel => exact ⟨i + 1, by go_num, ⟨by have := HI.out; omega, HI.out.1, _, _, _, _, HF2.out⟩⟩
                    case measure => have := HI.out; simp [intOf]; omega
                  · have hlt' : ¬ ((T : Int) < (x.1.2 : Int)) := by omega
                    have hmn : x.1.2 = min x.1.2 T := (Nat.min_eq_left (show x.1.2 ≤ T by omega)).symm
                    have HF : Hid _ := hSy2.done HSA.out.loz HSA.out.los HSA.out.ne (y := ((x.1.1.take T, min x.1.2 T), x.2)) ⟨hmn, rfl, rfl, rfl⟩ hbl0 hbl1
                    clear hmn
                    clear hSy hSy2 C hlT hbl0 hbl1
                    go_wp2_with fail
                    refine HT.out _ _ ?_
                    refine tail_any _ kp v sb zb W.heap.size _ _ _ _ ((x.1.1.take T, min x.1.2 T), x.2) _ ⟨HF.out.dv, HF.out.cur, by have := HF.out.cnt; have := HI.out; omega, ⟨(HF.out.dv.cur HF.out.cur).1, (HF.out.dv.cur HF.out.cur).2.1⟩, (HF.out.dv.cur HF.out.cur).2.2.1, (HF.out.dv.cur HF.out.cur).2.2.2, by have := HF.out.l1; have := HI.out; omega⟩ ⟨HF.out.rs, HF.out.rz⟩ (fun _ _ _ _ _ _ _ _ _ _ _ _ _ _ _ _ _ _ _ _ _ _ _ _ _ _ _ _ _ _ _ _ _ _ _ _ _ _ _ _ _ _ _ _ _ _ _ _ _ _ _ _ _ _ _ _ _ _ _ _ _ _ _ _ _ _ _ _ _ _ _ _ _ _ _ _ _ _ _ _ _ _ _ _ _ _ _ _ _ _ _ _ _ _ _ _ _ _ _ _ _ _ _ _ _ _ _ _ _ _ _ _ _ _ _ _ _ _ _ _ _ _ _ _ _ _ _ _ _ _ _ _ _ _ _ _ _ _ _ _ _ _ _ _ _ _ _ _ _ _ _ _ _ _ _ _ _ _ _ _ w2 hb2 => ?_)
                    have HF2 : Hid _ := HF.out.below hb2
                    clear HF hb2
                    go_wp2_with fail
                    go_roundw
                    case rel => exact ⟨i + 1, by go_num, ⟨by have := HI.out; omega, HI.out.1, _, _, _, _, HF2.out⟩⟩
                    case measure => have := HI.out; simp [intOf]; omega
              · as_aux_lemma =>
                  have hSA := HSx.out.below bA
                  obtain ⟨qn, hqn, -⟩ := and_ex65535 n
                  obtain ⟨Z1, hZ1⟩ : ∃ Z, x.2.1.length + 1 = Z := ⟨_, rfl⟩
                  obtain ⟨T, hT⟩ : ∃ T, qn % Z1 = T := ⟨_, rfl⟩
                  have w5 : IntKind.i64.wrap ((x.2.1.length : Int) + 1) = (Z1 : Int) := by rw [IntKind.wrap_i64]; have := hSA.l1; have := HI.out; omega
                  have z0 : ∀ q, ((wr.alloc (.cells #[.int .i64 2, .int .i64 fl, .slice oa l.length cap, .int .i64 n, .int .i64 k0, .int .i64 k1] 35)).drewN q).cell? ⟨zb, 1, none⟩ = some (.int .i64 (x.2.1.length : Int)) := fun q => by show (wr.alloc _).cell? _ = _; rw [cell_of_row _ _ _ _ _ _ hSA.rz]; rfl
                  have w6 : ¬ ((Z1 : Int) = 0) := by omega
                  have w7 : ((Z1 : Int) == 0) = false := by simp; omega
                  have w8 : ((qn : Int) % (Z1 : Int)) = (T : Int) := by rw [← hT]; rfl
                  have HZ : Hid (T ≤ x.2.1.length) := by have := Nat.mod_lt qn (show 0 < Z1 by omega); show T ≤ _; omega
                  clear hSA hZ1 hT
                  go_wp2_with fail
                  go_quiet (fail)
                  have bD : Below wr.heap.size wr ((wr.alloc (.cells #[.int .i64 2, .int .i64 fl, .slice oa l.length cap, .int .i64 n, .int .i64 k0, .int .i64 k1] 35)).drewN nq) := ⟨bA.os, bA.tape, bA.output, bA.size, bA.block⟩
                  have HSA : Hid (Sx W ((wr.alloc (.cells #[.int .i64 2, .int .i64 fl, .slice oa l.length cap, .int .i64 n, .int .i64 k0, .int .i64 k1] 35)).drewN nq) v sb zb lv zM ms sp x i) := HSx.out.below bD
                  have C : Hid _ := Cut1 HSA.out.dv HSA.out.bel.size x HSA.out.cur (by have := HSA.out.cnt; have := HI.out; omega) T HZ.out
                  clear z0 bD
                  go_wp2_with fail
                  refine Calls.mono C.out ?_
                  rintro e w1 hP
                  obtain ⟨lv', ms', sp', hSy⟩ := HSA.out.op hP
                  obtain ⟨rfl, -⟩ := hP
                  have hlT : (x.2.1.take T).length = T := by rw [List.length_take]; have := HZ.out; omega
                  have z0 : w1.cell? ⟨zb, 1, none⟩ = some (.int .i64 (x.2.1.length : Int)) := by rw [cell_of_row _ _ _ _ _ _ hSy.rz]; rfl
                  obtain ⟨fz, hSy2⟩ := hSy.setZ HSA.out.loz HSA.out.ne 1 T (x.1, (x.2.1.take T, x.2.2)) ⟨rfl, rfl⟩ (by show _ = #[Value.int .i64 (x.1.1.length : Int), Value.int .i64 ((x.2.1.take T).length : Int)]; rw [hlT]; rfl)
                  have y0 : (w1.setCell ⟨zb, 1, none⟩ (.int .i64 (T : Int))).cell? ⟨sb, 1, none⟩ = some (.int .i64 (x.2.2 : Int)) := by rw [cell_of_row _ _ _ _ _ _ hSy2.rs]; rfl
                  have hbl0 : x.1.1.length ≤ 3 + 300 * (i + 1) := by have := HSA.out.l0; have := HZ.out;  omega
                  have hbl1 : (x.2.1.take T).length ≤ 3 + 300 * (i + 1) := by have := HSA.out.l1; have := HZ.out; rw [hlT]; omega
                  by_cases hlt : T < x.2.2
                  · have hlt' : (T : Int) < (x.2.2 : Int) := by omega
                    obtain ⟨fs, hSy3⟩ := hSy2.setS HSA.out.los HSA.out.ne 1 T (x.1, (x.2.1.take T, min x.2.2 T)) ⟨rfl, rfl⟩ (by show _ = #[Value.int .i64 (x.1.2 : Int), Value.int .i64 ((min x.2.2 T : Nat) : Int)]; rw [Nat.min_eq_right (by omega)]; rfl)
                    have HF : Hid _ := hSy3.done HSA.out.loz HSA.out.los HSA.out.ne ⟨rfl, rfl, rfl, rfl⟩ hbl0 hbl1
                    clear hSy hSy2 hSy3 C hlT hbl0 hbl1
                    go_wp2_with fail
                    refine HT.out _ _ ?_
                    refine tail_any _ kp v sb zb W.heap.size _ _ _ _ (x.1, (x.2.1.take T, min x.2.2 T)) _ ⟨HF.out.dv, HF.out.cur, by have := HF.out.cnt; have := HI.out; omega, ⟨(HF.out.dv.cur HF.out.cur).1, (HF.out.dv.cur HF.out.cur).2.1⟩, (HF.out.dv.cur HF.out.cur).2.2.1, (HF.out.dv.cur HF.out.cur).2.2.2, by have := HF.out.l1; have := HI.out; omega⟩ ⟨HF.out.rs, HF.out.rz⟩ (fun _ _ _ _ _ _ _ _ _ _ _ _ _ _ _ _ _ _ _ _ _ _ _ _ _ _ _ _ _ _ _ _ _ _ _ _ _ _ _ _ _ _ _ _ _ _ _ _ _ _ _ _ _ _ _ _ _ _ _ _ _ _ _ _ _ _ _ _ _ _ _ _ _ _ _ _ _ _ _ _ _ _ _ _ _ _ _ _ _ _ _ _ _ _ _ _ _ _ _ _ _ _ _ _ _ _ _ _ _ _ _ _ _ _ _ _ _ _ _ _ _ _ _ _ _ _ _ _ _ _ _ _ _ _ _ _ _ _ _ _ _ _ _ _ _ _ _ _ _ _ _ _ _ _ _ _ _ _ _ _ w2 hb2 => ?_)
                    have HF2 : Hid _ := HF.out.below hb2
                    clear HF hb2
                    go_wp2_with fail
                    go_roundw
                    case rel => exact ⟨i + 1, by go_num, ⟨by have := HI.out; omega, HI.out.1, _, _, _, _, HF2.out⟩⟩
                    case measure => have := HI.out; simp [intOf]; omega
                  · have hlt' : ¬ ((T : Int) < (x.2.2 : Int)) := by omega
                    have hmn : x.2.2 = min x.2.2 T := (Nat.min_eq_left (show x.2.2 ≤ T by omega)).symm
                    have HF : Hid _ := hSy2.done HSA.out.loz HSA.out.los HSA.out.ne (y := (x.1, (x.2.1.take T, min x.2.2 T))) ⟨rfl, hmn, rfl, rfl⟩ hbl0 hbl1
                    clear hmn
                    clear hSy hSy2 C hlT hbl0 hbl1
                    go_wp2_with fail
                    refine HT.out _ _ ?_
                    refine tail_any _ kp v sb zb W.heap.size _ _ _ _ (x.1, (x.2.1.take T, min x.2.2 T)) _ ⟨HF.out.dv, HF.out.cur, by have := HF.out.cnt; have := HI.out; omega, ⟨(HF.out.dv.cur HF.out.cur).1, (HF.out.dv.cur HF.out.cur).2.1⟩, (HF.out.dv.cur HF.out.cur).2.2.1, (HF.out.dv.cur HF.out.cur).2.2.2, by have := HF.out.l1; have := HI.out; omega⟩ ⟨HF.out.rs, HF.out.rz⟩ (fun _ _ _ _ _ _ _ _ _ _ _ _ _ _ _ _ _ _ _ _ _ _ _ _ _ _ _ _ _ _ _ _ _ _ _ _ _ _ _ _ _ _ _ _ _ _ _ _ _ _ _ _ _ _ _ _ _ _ _ _ _ _ _ _ _ _ _ _ _ _ _ _ _ _ _ _ _ _ _ _ _ _ _ _ _ _ _ _ _ _ _ _ _ _ _ _ _ _ _ _ _ _ _ _ _ _ _ _ _ _ _ _ _ _ _ _ _ _ _ _ _ _ _ _ _ _ _ _ _ _ _ _ _ _ _ _ _ _ _ _ _ _ _ _ _ _ _ _ _ _ _ _ _ _ _ _ _ _ _ _ w2 hb2 => ?_)
                    have HF2 : Hid _ := HF.out.below hb2
                    clear HF hb2
                    go_wp2_with fail
                    go_roundw
                    case rel => exact ⟨i + 1, by go_num, ⟨by have := HI.out; omega, HI.out.1, _, _, _, _, HF2.out⟩⟩
                    case measure => have := HI.out; simp [intOf]; omega
            · as_aux_lemma =>
                have HF2 : Hid _ := (HSx.out.below bA).more (Nat.le_succ i)
                go_wp2_with fail
                go_roundw
                case rel => exact ⟨i + 1, by go_num, ⟨by have := HI.out; omega, HI.out.1, _, _, _, _, HF2.out⟩⟩
                case measure => have := HI.out; simp [intOf]; omega
    · have hgo2 : ¬ ((i : Int) < (N : Int)) ∨ ((i : Int) < (N : Int)) ∧ ¬ ((i : Int) < 60) := by omega
      obtain ⟨-, -, _, _, _, _, hSx⟩ := HR.out
      have HB : Hid (Below W.heap.size W wr) := hSx.bel
      clear hgo hSx HR
      rcases hgo2 with h1 | ⟨h1, h2⟩
      all_goals
        go_wp2_with fail
        go_ret
        exact ⟨rfl, HB.out⟩
end
end Go.Proofs.Ytdiflmckjpmngaa
