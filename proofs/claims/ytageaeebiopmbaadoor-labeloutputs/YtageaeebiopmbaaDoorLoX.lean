/- LabelOutputs: the walk. -/
import Derived.Test.YtageaeebiopmbaaDoorLoM
import Derived.Test.YtageaeebiopmbaaDoorWorks
import Derived.Test.YtageaeebiopmbaaDoorRight
namespace Go.Proofs.YtageaeebiopmbaaDoor
open Go.RowKit Go.Proofs.YtageaeebiopmbaaDoor.Sha
/-- A label laid down anew. -/
theorem lay27 (W : World) (k : List Nat) (t : ByteArray) (hk : k.length = 20) : ∃ W', (storeR 27 (.pointer (some ⟨W.heap.size, 0, none⟩)) (.agg (lab k t))).run Tryd.prog (W.alloc (.cells #[.int .u8 0, .int .u8 0, .int .u8 0, .int .u8 0, .int .u8 0, .int .u8 0, .int .u8 0, .int .u8 0, .int .u8 0, .int .u8 0, .int .u8 0, .int .u8 0, .int .u8 0, .int .u8 0, .int .u8 0, .int .u8 0, .int .u8 0, .int .u8 0, .int .u8 0, .int .u8 0, .string ⟨#[]⟩] 27)) = .ok () W' ∧ W'.heap[W.heap.size]? = some (.cells (lab k t) 27 (0, 0)) ∧ Below W.heap.size W W' := by
  have h := run_storeR25 (W.alloc (.cells none25 27)) W.heap.size z20 k ⟨#[]⟩ t (heap_alloc_new _ _) rfl hk
  exact ⟨_, h, setRow_heap _ _ _ _ _ _ (heap_alloc_new _ _), below_setRow ((Below.refl _ W).alloc (Nat.le_refl _) _) (Nat.le_refl _) _⟩
attribute [local go_sem ↓] to25s to25l to23s toEq
set_option maxRecDepth 100000 in
set_option maxHeartbeats 4000000 in
theorem outputs_any (s : List Nat) (hl : s.length = 32) (hb : Byt s) (n o p : ByteArray) (w : World) (hk : Tk w) (hx : Tx w) (ht : Tb w) :
    Calls Tryd.prog 3 #[.agg (bs s), .string n, .string o, .string p] w fun e w' => e = .returned (.bool true) ∧ Below w.heap.size w w' := by
  obtain ⟨W0, hW0⟩ : ∃ W0, w.alloc (.cells (bs s) 23) = W0 := ⟨_, rfl⟩
  have bel0 : Below w.heap.size w W0 := by rw [← hW0]; exact (Below.refl _ w).alloc (Nat.le_refl _) _
  have row0 : W0.heap[w.heap.size]? = some (.cells (bs s) 23 (0, 0)) := by rw [← hW0]; exact heap_alloc_new w _
  have ld := run_ld23s W0 w.heap.size s row0 hl
  have HC : Hid (∀ a W, Below w.heap.size w W → Calls Tryd.prog 4 #[.agg (bs s), .string a, .string n] W fun e w' => e = .returned (.tuple #[.agg (lab (outK a n s) (outT a n)), .int .i64 ((outE a n : Nat) : Int)]) ∧ Below W.heap.size W w') := fun a W hW => by
    have := output_any a n s hl hb W (hk.below hW (by have := ht.sz; omega)) (hx.below hW hx.sz) (ht.below hW ht.sz)
    unfold outV at this
    rw [outL_lab] at this
    exact this
  have HX : Hid (Tx w) := hx
  obtain ⟨E1, hE1⟩ : ∃ E, outE o n = E := ⟨_, rfl⟩
  obtain ⟨E2, hE2⟩ : ∃ E, outE p n = E := ⟨_, rfl⟩
  obtain ⟨K1, hK1⟩ : ∃ K, outK o n s = K := ⟨_, rfl⟩
  obtain ⟨K2, hK2⟩ : ∃ K, outK p n s = K := ⟨_, rfl⟩
  obtain ⟨T1, hT1⟩ : ∃ T, outT o n = T := ⟨_, rfl⟩
  obtain ⟨T2, hT2⟩ : ∃ T, outT p n = T := ⟨_, rfl⟩
  have l1 : K1.length = 20 := by rw [← hK1]; exact outK_len _ _ _
  have l2 : K2.length = 20 := by rw [← hK2]; exact outK_len _ _ _
  have C1 : Hid (∀ W, Below w.heap.size w W → Calls Tryd.prog 4 #[.agg (bs s), .string o, .string n] W fun e w' => e = .returned (.tuple #[.agg (lab K1 T1), .int .i64 (E1 : Int)]) ∧ Below W.heap.size W w') := fun W hW => by
    have := HC.out o W hW
    rw [hK1, hT1, hE1] at this
    exact this
  have C2 : Hid (∀ W, Below w.heap.size w W → Calls Tryd.prog 4 #[.agg (bs s), .string p, .string n] W fun e w' => e = .returned (.tuple #[.agg (lab K2 T2), .int .i64 (E2 : Int)]) ∧ Below W.heap.size W w') := fun W hW => by
    have := HC.out p W hW
    rw [hK2, hT2, hE2] at this
    exact this
  have CR : Hid (∀ (a : ByteArray) W, Calls Tryd.prog 6 #[.string a] W fun e w' => e = .returned (.bool (decide (okN a = 0))) ∧ w' = W) := fun a W => YtageaeebiopmbaaDoor.right_any a W
  have M1 : Hid (okN n = 0 → okN o = 0 → n.size + o.size < 211 → E1 = 0 ∧ T1 = nmO o n) := fun a b c => by have := out_right o n a b c; rw [hE1, hT1] at this; exact this
  have M2 : Hid (¬ (okN n = 0 ∧ okN o = 0) → E1 ≠ 0) := fun h => by have := out_wrong o n h; rw [hE1] at this; exact this
  have M3 : Hid (E1 = 0 → E2 = 0 → ((K1 = K2 ∧ T1 = T2) ↔ o = p)) := fun a b => by have := out_one o p n s (hE1.trans a) (hE2.trans b); rw [hK1, hK2, hT1, hT2] at this; exact this
  have HW0 : Hid (w.alloc (.cells (bs s) 23) = W0) := hW0
  have H0 : Hid (Below w.heap.size w W0 ∧ W0.heap[w.heap.size]? = some (.cells (bs s) 23 (0, 0))) := ⟨bel0, row0⟩
  rw [← hW0] at ld
  clear hE1 hE2 hK1 hK2 hT1 hT2 hW0 HC hk hx ht hb bel0 row0
  go_enter Tryd.func3, Tryd.ntmps3
  go_wp2_with fail
  rw [HW0.out]
  refine Calls.mono (C1.out W0 H0.out.1) ?_
  rintro e W1 ⟨rfl, b1⟩
  have z0 : w.heap.size < W0.heap.size := (Array.getElem?_eq_some_iff.1 H0.out.2).1
  obtain ⟨W2, s2, r2, b2⟩ := lay27 W1 K1 T1 l1
  have s02 : W0.heap.size ≤ W1.heap.size := b1.size
  have b02 : Below W0.heap.size W0 W2 := b1.trans (b2.mono s02)
  have ld2 := run_ld23s W2 w.heap.size s ((b02.block _ z0).trans H0.out.2) hl
  have B2 : Hid (Below w.heap.size w W2) := H0.out.1.trans (b02.mono (by omega))
  have R2 : Hid (W2.heap[W1.heap.size]? = some (.cells (lab K1 T1) 27 (0, 0))) := r2
  have zw : w.heap.size < W1.heap.size := by omega
  clear r2 b1 b2 b02 ld
  go_wp2_with fail
  refine Calls.mono (C2.out W2 B2.out) ?_
  rintro e W3 ⟨rfl, b3⟩
  obtain ⟨W4, s4, r4, b4⟩ := lay27 W3 K2 T2 l2
  have z12 : W1.heap.size < W2.heap.size := (Array.getElem?_eq_some_iff.1 R2.out).1
  have s23 : W2.heap.size ≤ W3.heap.size := b3.size
  have b24 : Below W2.heap.size W2 W4 := b3.trans (b4.mono s23)
  have s34 : W3.heap.size < W4.heap.size := (Array.getElem?_eq_some_iff.1 r4).1
  have B4 : Hid (Below w.heap.size w W4) := B2.out.trans (b24.mono (by omega))
  have R4 : Hid (W4.heap[W1.heap.size]? = some (.cells (lab K1 T1) 27 (0, 0)) ∧ W4.heap[W3.heap.size]? = some (.cells (lab K2 T2) 27 (0, 0))) := ⟨(b24.block _ z12).trans R2.out, r4⟩
  have CW : Hid _ := works_any W4 (HX.out.below B4.out HX.out.sz)
  clear r4 b3 b4 b24 ld2 s2
  go_wp2_with fail
  refine Calls.mono CW.out ?_
  rintro e W5 ⟨rfl, b5⟩
  have B5 : Hid (Below w.heap.size w W5) := B4.out.trans (b5.mono (by omega))
  have r1 : W5.heap[W1.heap.size]? = some (.cells (lab K1 T1) 27 (0, 0)) := (b5.block _ (by omega)).trans R4.out.1
  have r3 : W5.heap[W3.heap.size]? = some (.cells (lab K2 T2) 27 (0, 0)) := (b5.block _ s34).trans R4.out.2
  have g1 := run_loadR25 W5 W1.heap.size K1 T1 r1 l1
  have g3 := run_loadR25 W5 W3.heap.size K2 T2 r3 l2
  have cn : W5.cell? ⟨W1.heap.size, 20, none⟩ = some (.string T1) := by rw [cell_of_row _ _ _ _ _ _ r1, lab_name K1 T1 l1]
  have heq := run_eqR W5 K1 K2 T1 T2 l1 l2
  clear r1 r3 b5 CW R4 B4 s4 R2 B2 H0 C1 C2 HX
  have fin : E1 = 0 → E2 = 0 → ((decide (K1 = K2) && decide (T1 = T2)) == (o.toList == p.toList)) = true := fun a b => by
    rw [← Bool.decide_and]
    have h := M3.out a b
    by_cases q : o = p
    · subst q
      rw [decide_eq_true (h.2 rfl)]
      simp
    · rw [decide_eq_false (fun x => q (h.1 x))]
      have : (o.toList == p.toList) = false := by simpa using fun x => q (toList_inj.1 x)
      rw [this]
      rfl
  have RT : Hid (∀ a : ByteArray, okN a = 0 → ∀ W, Calls Tryd.prog 6 #[.string a] W fun e w' => e = .returned (.bool true) ∧ w' = W) := fun a h W => by
    have := CR.out a W
    rw [decide_eq_true h] at this
    exact this
  have RF : Hid (∀ a : ByteArray, ¬ okN a = 0 → ∀ W, Calls Tryd.prog 6 #[.string a] W fun e w' => e = .returned (.bool false) ∧ w' = W) := fun a h W => by
    have := CR.out a W
    rw [decide_eq_false h] at this
    exact this
  clear CR
  by_cases hn0 : okN n = 0
  · have RN : Hid _ := RT.out n hn0
    by_cases ho0 : okN o = 0
    · have RO : Hid _ := RT.out o ho0
      have hns : n.size ≤ 211 := okN_size n hn0
      have hos : o.size ≤ 211 := okN_size o ho0
      by_cases hz : n.size + o.size < 211
      · have hz' : (n.size : Int) + (o.size : Int) < 211 := by omega
        obtain ⟨e0, t0⟩ := M1.out hn0 ho0 hz
        have z1 : ¬ (9223372036854775807 < n.size + 1) := by omega
        have z2 : ¬ (9223372036854775807 < (n ++ (⟨#[45]⟩ : ByteArray)).size + o.size) := by rw [app_size]; show ¬ (_ < n.size + 1 + o.size); omega
        have z3 : ¬ (9223372036854775807 < n.size + 1 + o.size) := by omega
        by_cases hq : o = outN
        · have hl3 : o.toList = [111, 117, 116] := by rw [hq]; exact outN_l
          have ht1 : T1 = n := by rw [t0, nmO, if_pos hq]
          clear hq t0 M1 M2 M3 RT RF hn0 ho0
          subst ht1
          by_cases q2 : E2 = 0
          · have f : Hid (((decide (K1 = K2) && decide (T1 = T2)) == ([111, 117, 116] == p.toList)) = true) := by have := fin e0 q2; rw [hl3] at this; exact this
            clear fin
            subst e0 q2
            go_wp2_with fail
            refine Calls.mono (RN.out W5) ?_
            rintro e W ⟨rfl, rfl⟩
            go_wp2_with fail
            refine Calls.mono (RO.out _) ?_
            rintro e W ⟨rfl, rfl⟩
            go_wp2
            go_ret
            exact ⟨congrArg (fun b => Ending.returned (.bool b)) f.out, B5.out⟩
          · have h2' : ¬ ((E2 : Int) = 0) := by omega
            clear fin
            subst e0
            go_wp2_with fail
            refine Calls.mono (RN.out W5) ?_
            rintro e W ⟨rfl, rfl⟩
            go_wp2_with fail
            refine Calls.mono (RO.out _) ?_
            rintro e W ⟨rfl, rfl⟩
            go_wp2
            go_ret
            exact ⟨rfl, B5.out⟩
        · have hl3 : ¬ (o.toList = [111, 117, 116]) := fun h => hq (toList_inj.1 (h.trans outN_l.symm))
          have hl4 : (o.toList == [111, 117, 116]) = false := by simpa using hl3
          have ht1 : n ++ (⟨#[45]⟩ : ByteArray) ++ o = T1 := by rw [t0, nmO, if_neg hq, ByteArray.append_assoc]; rfl
          have ht2 : n ++ ((⟨#[45]⟩ : ByteArray) ++ o) = T1 := by rw [← ByteArray.append_assoc]; exact ht1
          clear hq t0 M1 M2 M3 RT RF hn0 ho0
          by_cases q2 : E2 = 0
          · have f : Hid _ := fin e0 q2
            clear fin
            subst e0 q2
            go_wp2_with fail
            refine Calls.mono (RN.out W5) ?_
            rintro e W ⟨rfl, rfl⟩
            go_wp2_with fail
            refine Calls.mono (RO.out _) ?_
            rintro e W ⟨rfl, rfl⟩
            go_wp2
            go_ret
            exact ⟨congrArg (fun b => Ending.returned (.bool b)) f.out, B5.out⟩
          · have h2' : ¬ ((E2 : Int) = 0) := by omega
            clear fin
            subst e0
            go_wp2_with fail
            refine Calls.mono (RN.out W5) ?_
            rintro e W ⟨rfl, rfl⟩
            go_wp2_with fail
            refine Calls.mono (RO.out _) ?_
            rintro e W ⟨rfl, rfl⟩
            go_wp2
            go_ret
            exact ⟨rfl, B5.out⟩
      · have hz' : ¬ ((n.size : Int) + (o.size : Int) < 211) := by omega
        clear M1 M2 M3 RT RF hn0 ho0
        by_cases q1 : E1 = 0
        · by_cases q2 : E2 = 0
          · have f : Hid _ := fin q1 q2
            clear fin
            subst q1 q2
            go_wp2_with fail
            refine Calls.mono (RN.out W5) ?_
            rintro e W ⟨rfl, rfl⟩
            go_wp2_with fail
            refine Calls.mono (RO.out _) ?_
            rintro e W ⟨rfl, rfl⟩
            go_wp2_with fail
            refine Calls.mono (RN.out _) ?_
            rintro e W ⟨rfl, rfl⟩
            go_wp2_with fail
            refine Calls.mono (RO.out _) ?_
            rintro e W ⟨rfl, rfl⟩
            go_wp2
            go_ret
            exact ⟨congrArg (fun b => Ending.returned (.bool b)) f.out, B5.out⟩
          · have h2' : ¬ ((E2 : Int) = 0) := by omega
            clear fin
            subst q1
            go_wp2_with fail
            refine Calls.mono (RN.out W5) ?_
            rintro e W ⟨rfl, rfl⟩
            go_wp2_with fail
            refine Calls.mono (RO.out _) ?_
            rintro e W ⟨rfl, rfl⟩
            go_wp2_with fail
            refine Calls.mono (RN.out _) ?_
            rintro e W ⟨rfl, rfl⟩
            go_wp2_with fail
            refine Calls.mono (RO.out _) ?_
            rintro e W ⟨rfl, rfl⟩
            go_wp2
            go_ret
            exact ⟨rfl, B5.out⟩
        · have h1' : ¬ ((E1 : Int) = 0) := by omega
          clear fin
          go_wp2_with fail
          refine Calls.mono (RN.out W5) ?_
          rintro e W ⟨rfl, rfl⟩
          go_wp2_with fail
          refine Calls.mono (RO.out _) ?_
          rintro e W ⟨rfl, rfl⟩
          go_wp2_with fail
          refine Calls.mono (RN.out _) ?_
          rintro e W ⟨rfl, rfl⟩
          go_wp2_with fail
          refine Calls.mono (RO.out _) ?_
          rintro e W ⟨rfl, rfl⟩
          go_wp2
          go_ret
          exact ⟨rfl, B5.out⟩
    · have RO : Hid _ := RF.out o ho0
      have h1' : ¬ ((E1 : Int) = 0) := by have := M2.out (fun h => ho0 h.2); omega
      clear fin M1 M2 M3 RT RF hn0 ho0
      go_wp2_with fail
      refine Calls.mono (RN.out W5) ?_
      rintro e W ⟨rfl, rfl⟩
      go_wp2_with fail
      refine Calls.mono (RO.out _) ?_
      rintro e W ⟨rfl, rfl⟩
      go_wp2_with fail
      refine Calls.mono (RN.out _) ?_
      rintro e W ⟨rfl, rfl⟩
      go_wp2_with fail
      refine Calls.mono (RO.out _) ?_
      rintro e W ⟨rfl, rfl⟩
      go_wp2
      go_ret
      exact ⟨rfl, B5.out⟩
  · have RN : Hid _ := RF.out n hn0
    have h1' : ¬ ((E1 : Int) = 0) := by have := M2.out (fun h => hn0 h.1); omega
    clear fin M1 M2 M3 RT RF hn0
    go_wp2_with fail
    refine Calls.mono (RN.out W5) ?_
    rintro e W ⟨rfl, rfl⟩
    go_wp2_with fail
    refine Calls.mono (RN.out _) ?_
    rintro e W ⟨rfl, rfl⟩
    go_wp2
    go_ret
    exact ⟨rfl, B5.out⟩
end Go.Proofs.YtageaeebiopmbaaDoor
