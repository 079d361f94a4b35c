/- The reference's Parse of any text. -/
import Derived.Test.YtmfkhpledgnipaaDoorRefPb
namespace Go.Proofs.YtmfkhpledgnipaaDoor
open Go.RowKit
attribute [local go_sem] zero25
attribute [local go_sem ↓] to25s to25l toBuild
set_option maxRecDepth 100000 in
set_option maxHeartbeats 3200000 in
theorem paR_any (s : ByteArray) (w : World) :
    Calls Tryd.prog 21 #[.string s] w fun e w' => e = .returned (three (paV s)) ∧ Below w.heap.size w w' := by
  obtain ⟨a, ha⟩ : ∃ a, a = paV s := ⟨_, rfl⟩
  rw [← ha]
  have END : Hid (∀ (W : World), W.heap[w.heap.size]? = some (.cells none25 25 (0, 0)) → W.heap[w.heap.size + 1]? = some (.cells none25 25 (0, 0)) → Below w.heap.size w W → (loadR 25 (.pointer (some ⟨w.heap.size + 1, 0, none⟩))).run Tryd.prog W = .ok (.agg none25) W ∧ (storeR 25 (.pointer (some ⟨w.heap.size, 0, none⟩)) (.agg none25)).run Tryd.prog W = .ok () (W.setRow w.heap.size none25) ∧ Hid ((W.setRow w.heap.size none25).heap[w.heap.size]? = some (.cells none25 25 (0, 0)) ∧ Below w.heap.size w (W.setRow w.heap.size none25))) := fun W hr hr1 hb =>
    ⟨run_loadR25 W (w.heap.size + 1) z20 ⟨#[]⟩ hr1 rfl, run_storeR25 W w.heap.size z20 z20 ⟨#[]⟩ ⟨#[]⟩ hr rfl rfl, setRow_heap _ _ _ _ _ _ hr, below_setRow hb (Nat.le_refl _) _⟩
  obtain ⟨W0, hW0⟩ : ∃ W0, (w.alloc (.cells #[.int .u8 0, .int .u8 0, .int .u8 0, .int .u8 0, .int .u8 0, .int .u8 0, .int .u8 0, .int .u8 0, .int .u8 0, .int .u8 0, .int .u8 0, .int .u8 0, .int .u8 0, .int .u8 0, .int .u8 0, .int .u8 0, .int .u8 0, .int .u8 0, .int .u8 0, .int .u8 0, .string ⟨#[]⟩] 25)).alloc (.cells #[.int .u8 0, .int .u8 0, .int .u8 0, .int .u8 0, .int .u8 0, .int .u8 0, .int .u8 0, .int .u8 0, .int .u8 0, .int .u8 0, .int .u8 0, .int .u8 0, .int .u8 0, .int .u8 0, .int .u8 0, .int .u8 0, .int .u8 0, .int .u8 0, .int .u8 0, .int .u8 0, .string ⟨#[]⟩] 25) = W0 := ⟨_, rfl⟩
  have H0 : Hid (Below w.heap.size w W0 ∧ W0.heap[w.heap.size]? = some (.cells none25 25 (0, 0)) ∧ W0.heap[w.heap.size + 1]? = some (.cells none25 25 (0, 0))) := by
    rw [← hW0]
    refine ⟨((Below.refl _ w).alloc (Nat.le_refl _) _).alloc (by simp) _, (heap_alloc_old _ _ (h := by simp)).trans (heap_alloc_new _ _), ?_⟩
    have := heap_alloc_new (w.alloc (.cells none25 25)) (.cells none25 25)
    rw [heap_size_alloc] at this
    exact this
  by_cases h257 : 257 < s.size
  · have hE : Hid (a = (none25, 1, 0)) := by show _ = _; rw [ha, paV, if_pos h257]
    have h1 : (257 : Int) < (s.size : Int) := by omega
    obtain ⟨ld, st, HF⟩ := END.out _ H0.out.2.1 H0.out.2.2 H0.out.1
    clear ha
    go_enter Tryd.func21, Tryd.ntmps21
    go_wp2_with fail
    exact bodyPost_ret (results_cell3 rfl _ _ w.heap.size z20 ⟨#[]⟩ rfl rfl HF.out.1) rfl ⟨by rw [hE.out]; rfl, HF.out.2⟩
  rw [paV, if_neg h257] at ha
  have h1 : ¬ (257 : Int) < (s.size : Int) := by omega
  have HA : Hid (a = match hdV s 13 0 with
    | some (e, i) => (none25, e, i)
    | none => if ¬ (pbV (s.extract 13 s.size)).2.1 = 0 then (none25, (pbV (s.extract 13 s.size)).2.1, 13 + (pbV (s.extract 13 s.size)).2.2) else ((pbV (s.extract 13 s.size)).1, 0, 0)) := ha
  clear ha
  go_enter Tryd.func21, Tryd.ntmps21
  go_wp2_with fail
  clear hW0
  go_loopw [6] (fun i wr => ∃ k : Nat, i = .int .i64 (k : Int) ∧ k ≤ 13 ∧ k ≤ s.size ∧ Hid (hdV s 13 0 = hdV s (13 - k) k) ∧ Hid (Below w.heap.size w wr ∧ wr.heap[w.heap.size]? = some (.cells none25 25 (0, 0)) ∧ wr.heap[w.heap.size + 1]? = some (.cells none25 25 (0, 0)))) (fun i _ => 13 - (intOf i).toNat)
  case atStart => exact ⟨0, rfl, by omega, by omega, rfl, H0⟩
  case round =>
    clear H0
    obtain ⟨k, rfl, hk, hks, HK, H0⟩ := hrel
    by_cases hlt : k < 13
    · have hk0 : (0 : Int) ≤ (k : Int) := by omega
      have hk1 : (k : Int) < 13 := by omega
      obtain ⟨f, hf⟩ : ∃ f, 13 - k = f + 1 := ⟨12 - k, by omega⟩
      have hun : hdV s 13 0 = if k = s.size then some (3, k) else if ¬ byt s k = byt store k then some (20, k) else hdV s f (k + 1) := by
        rw [HK.out, hf]; rfl
      by_cases hks2 : k = s.size
      · have HE : Hid (a = (none25, 3, s.size)) := by show _ = _; rw [HA.out, hun, if_pos hks2, hks2]
        have hk2 : (s.size : Int) ≤ (k : Int) := by omega
        obtain ⟨ld, st, HF⟩ := END.out _ H0.out.2.1 H0.out.2.2 H0.out.1
        clear hun hks2
        go_wp2_with fail
        exact bodyPost_ret (results_cell3 rfl _ _ w.heap.size z20 ⟨#[]⟩ rfl rfl HF.out.1) rfl ⟨by rw [HE.out]; rfl, HF.out.2⟩
      · rw [if_neg hks2] at hun
        have hk2 : ¬ ((s.size : Int) ≤ (k : Int)) := by omega
        obtain ⟨c, hc⟩ : ∃ c, c = byt store k := ⟨_, rfl⟩
        obtain ⟨c', hc'⟩ : ∃ c, c = byt s k := ⟨_, rfl⟩
        rw [← hc, ← hc'] at hun
        have i1 : ∀ W : World, (Instr.index 9 (.string s) (.int .i64 (k : Int))).run Tryd.prog W = .ok (.int .u8 (c' : Int)) W := fun W => by
          rw [hc']; exact idx9 W s k (by omega)
        have i2 : ∀ W : World, (Instr.index 9 (.string ⟨#[47, 103, 114, 97, 102, 116, 47, 115, 116, 111, 114, 101, 47]⟩) (.int .i64 (k : Int))).run Tryd.prog W = .ok (.int .u8 (c : Int)) W := fun W => by
          rw [hc]; exact idx9 W store k hlt
        clear hc hc'
        by_cases hcc : c' = c
        · have HN : Hid (hdV s 13 0 = hdV s (13 - (k + 1)) (k + 1)) := by
            show _ = _
            rw [hun, if_neg (by simpa using hcc)]
            congr 1
            omega
          subst hcc
          clear hun
          go_wp2_with fail
          go_quiet (fail)
          go_wp2
          go_roundw
          case rel => exact ⟨k + 1, by go_num, by omega, by omega, HN, ⟨Below.drewN' H0.out.1 _, H0.out.2.1, H0.out.2.2⟩⟩
          case measure => simp [intOf]; omega
        · have HE : Hid (a = (none25, 20, k)) := by show _ = _; rw [HA.out, hun, if_pos hcc]
          have hcc' : ((c' : Int) != (c : Int)) = true := by simp; omega
          clear hun
          go_wp2_with fail
          go_quiet (fail)
          obtain ⟨ld, st, HF⟩ := END.out (wr.drewN nq) H0.out.2.1 H0.out.2.2 (Below.drewN' H0.out.1 _)
          go_wp2_with fail
          exact bodyPost_ret (results_cell3 rfl _ _ w.heap.size z20 ⟨#[]⟩ rfl rfl HF.out.1) rfl ⟨by rw [HE.out]; rfl, HF.out.2⟩
    · have hk1 : ¬ ((k : Int) < 13) := by omega
      have hke : k = 13 := by omega
      subst hke
      obtain ⟨q, hq⟩ : ∃ q, q = pbV (s.extract 13 s.size) := ⟨_, rfl⟩
      have HA2 : Hid (a = if ¬ q.2.1 = 0 then (none25, q.2.1, 13 + q.2.2) else (q.1, 0, 0)) := by
        show _ = _
        rw [HA.out, HK.out, hq]
        rfl
      obtain ⟨r, hr⟩ : ∃ r, r = s.extract 13 s.size := ⟨_, rfl⟩
      have hr' : s.extract 13 s.size = r := hr.symm
      have hform := pbV_form r
      have CP : Hid (∀ W, Calls Tryd.prog 20 #[.string r] W fun e w' => e = .returned (three q) ∧ Below W.heap.size W w') := fun W => by
        rw [hq, ← hr]; exact pbR_any r W
      rw [hr, ← hq] at hform
      have h13 : (13 : Int) ≤ (s.size : Int) := by omega
      clear hq hr HA HK
      have zw : w.heap.size + 1 < wr.heap.size := (Array.getElem?_eq_some_iff.1 H0.out.2.2).1
      have HZ : Hid (w.heap.size + 1 < wr.heap.size) := zw
      clear zw
      unfold three at CP
      rcases hform with ⟨f1, h, nm, hl, _, f2, f3⟩ | ⟨f1, f2, f3⟩
      · obtain ⟨q1, q2, q3⟩ := q
        simp only at f1 f2 f3
        subst f1 f2 f3
        replace HA2 : Hid (a = (lab h nm, 0, 0)) := HA2
        go_wp2_with fail
        refine (CP.out _).mono ?_
        rintro e W1 ⟨rfl, b1⟩
        have zw := HZ.out
        have r1 : W1.heap[w.heap.size]? = some (.cells none25 25 (0, 0)) := (b1.block _ (by omega)).trans H0.out.2.1
        have z1 : w.heap.size < W1.heap.size := (Array.getElem?_eq_some_iff.1 r1).1
        have bel1 : Below w.heap.size w W1 := H0.out.1.trans (b1.mono (by omega))
        have s1 : (storeR 25 (.pointer (some ⟨W1.heap.size, 0, none⟩)) (.agg (lab h nm))).run Tryd.prog (W1.alloc (.cells #[.int .u8 0, .int .u8 0, .int .u8 0, .int .u8 0, .int .u8 0, .int .u8 0, .int .u8 0, .int .u8 0, .int .u8 0, .int .u8 0, .int .u8 0, .int .u8 0, .int .u8 0, .int .u8 0, .int .u8 0, .int .u8 0, .int .u8 0, .int .u8 0, .int .u8 0, .int .u8 0, .string ⟨#[]⟩] 25)) = .ok () ((W1.alloc (.cells none25 25)).setRow W1.heap.size (lab h nm)) := run_storeR25 (W1.alloc (.cells none25 25)) W1.heap.size z20 h ⟨#[]⟩ nm (heap_alloc_new _ _) rfl hl
        obtain ⟨W2, hW2⟩ : ∃ W, W = (W1.alloc (.cells none25 25)).setRow W1.heap.size (lab h nm) := ⟨_, rfl⟩
        have rn : W2.heap[W1.heap.size]? = some (.cells (lab h nm) 25 (0, 0)) := by rw [hW2]; exact setRow_heap _ _ _ _ _ _ (heap_alloc_new _ _)
        have r2 : W2.heap[w.heap.size]? = some (.cells none25 25 (0, 0)) := by rw [hW2]; exact (setRow_other _ _ _ _ (by omega)).trans ((heap_alloc_old _ _ (h := z1)).trans r1)
        have bel2 : Below w.heap.size w W2 := by rw [hW2]; exact below_setRow (bel1.alloc (by omega) _) (by omega) _
        rw [← hW2] at s1
        have l2 := run_loadR25 W2 W1.heap.size h nm rn hl
        have s2 := run_storeR25 W2 w.heap.size z20 h ⟨#[]⟩ nm r2 rfl hl
        have hres : Hid ((W2.setRow w.heap.size (lab h nm)).heap[w.heap.size]? = some (.cells (lab h nm) 25 (0, 0))) := setRow_heap _ _ _ _ _ _ r2
        have bel3 : Hid (Below w.heap.size w (W2.setRow w.heap.size (lab h nm))) := below_setRow bel2 (Nat.le_refl _) _
        clear hW2 rn r2 r1 b1 bel1 bel2 z1 zw
        go_wp2_with fail
        exact bodyPost_ret (results_cell3 rfl _ _ w.heap.size h nm hl rfl hres.out) rfl ⟨by rw [HA2.out]; rfl, bel3.out⟩
      · obtain ⟨q1, q2, q3⟩ := q
        simp only at f1 f2 f3
        subst f2
        replace HA2 : Hid (a = (none25, q2, 13 + q3)) := by
          show _ = _
          rw [HA2.out]
          exact if_pos f1
        have f1' : ((q2 : Int) != 0) = true := by simp; omega
        have hadd : IntKind.i64.wrap ((q3 : Int) + 13) = (q3 : Int) + 13 := by rw [IntKind.wrap_i64]; omega
        go_wp2_with fail
        refine (CP.out _).mono ?_
        rintro e W1 ⟨rfl, b1⟩
        have zw := HZ.out
        have r1 : W1.heap[w.heap.size]? = some (.cells none25 25 (0, 0)) := (b1.block _ (by omega)).trans H0.out.2.1
        have r1' : W1.heap[w.heap.size + 1]? = some (.cells none25 25 (0, 0)) := (b1.block _ (by omega)).trans H0.out.2.2
        have z1 : w.heap.size + 1 < W1.heap.size := (Array.getElem?_eq_some_iff.1 r1').1
        have bel1 : Below w.heap.size w W1 := H0.out.1.trans (b1.mono (by omega))
        have s1 : (storeR 25 (.pointer (some ⟨W1.heap.size, 0, none⟩)) (.agg none25)).run Tryd.prog (W1.alloc (.cells #[.int .u8 0, .int .u8 0, .int .u8 0, .int .u8 0, .int .u8 0, .int .u8 0, .int .u8 0, .int .u8 0, .int .u8 0, .int .u8 0, .int .u8 0, .int .u8 0, .int .u8 0, .int .u8 0, .int .u8 0, .int .u8 0, .int .u8 0, .int .u8 0, .int .u8 0, .int .u8 0, .string ⟨#[]⟩] 25)) = .ok () ((W1.alloc (.cells none25 25)).setRow W1.heap.size none25) := run_storeR25 (W1.alloc (.cells none25 25)) W1.heap.size z20 z20 ⟨#[]⟩ ⟨#[]⟩ (heap_alloc_new _ _) rfl rfl
        obtain ⟨W2, hW2⟩ : ∃ W, W = (W1.alloc (.cells none25 25)).setRow W1.heap.size none25 := ⟨_, rfl⟩
        have r2 : W2.heap[w.heap.size]? = some (.cells none25 25 (0, 0)) := by rw [hW2]; exact (setRow_other _ _ _ _ (by omega)).trans ((heap_alloc_old _ _ (h := by omega)).trans r1)
        have r2' : W2.heap[w.heap.size + 1]? = some (.cells none25 25 (0, 0)) := by rw [hW2]; exact (setRow_other _ _ _ _ (by omega)).trans ((heap_alloc_old _ _ (h := z1)).trans r1')
        have bel2 : Below w.heap.size w W2 := by rw [hW2]; exact below_setRow (bel1.alloc (by omega) _) (by omega) _
        rw [← hW2] at s1
        obtain ⟨ld, st, HF⟩ := END.out W2 r2 r2' bel2
        clear hW2 r2 r2' r1 r1' b1 bel1 bel2 z1 zw
        go_wp2_with fail
        exact bodyPost_ret (results_cell3 rfl _ _ w.heap.size z20 ⟨#[]⟩ rfl rfl HF.out.1) rfl ⟨by rw [HA2.out]; simp [three]; exact ⟨rfl, by omega⟩, HF.out.2⟩
end Go.Proofs.YtmfkhpledgnipaaDoor
