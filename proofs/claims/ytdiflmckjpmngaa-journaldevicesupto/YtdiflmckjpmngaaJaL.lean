/- JournalDevices: the law. -/
import Derived.Test.YtdiflmckjpmngaaJa9
import Derived.Test.YtdiflmckjpmngaaJvS
namespace Go.Proofs.Ytdiflmckjpmngaa
open Go.RowKit
section
attribute [local go_sem ↓] toLdA toLdD toLdK toApB
set_option maxRecDepth 100000 in
set_option maxHeartbeats 6400000 in
theorem devices_any (W : World) (u0 u1 : Value) (l0 l1 : List Nat) (h0 : Bl W u0 l0) (h1 : Bl W u1 l1) (hl0 : l0.length ≤ 50000000000000) (hl1 : l1.length ≤ 50000000000000) (av : Value) (N : Nat) (hA : Acts W av N) : Calls Try.prog 4 #[.agg #[u0, u1], av] W fun e w' => e = .returned (.bool true) ∧ Below W.heap.size W w' := by
  obtain ⟨oA, cA, rfl, hN, hacts⟩ := hA
  have HAC : Hid _ := hacts
  obtain ⟨W1, hW1⟩ : ∃ W1, W.alloc (.cells #[u0, u1] 28) = W1 := ⟨_, rfl⟩
  have b1 : Below W.heap.size W W1 := by rw [← hW1]; exact (Below.refl _ W).alloc (Nat.le_refl _) _
  have r1 : W1.heap[W.heap.size]? = some (.cells #[u0, u1] 28 (0, 0)) := by rw [← hW1]; exact heap_alloc_new _ _
  have ll0 : l0.length ≤ LIM := by unfold LIM; omega
  have ll1 : l1.length ≤ LIM := by unfold LIM; omega
  have C1 : Hid _ := diskOf_any W1 u0 u1 l0 l1 (h0.below b1) (h1.below b1) ll0 ll1
  have ld1 := ld_Drow W1 W.heap.size #[u0, u1] rfl r1
  rw [← hW1] at ld1
  have HW1 : Hid (W.alloc (.cells #[u0, u1] 28) = W1) := hW1
  have HB : Hid (Bl W u0 l0 ∧ Bl W u1 l1 ∧ l0.length ≤ 50000000000000 ∧ l1.length ≤ 50000000000000 ∧ l0.length ≤ LIM ∧ l1.length ≤ LIM ∧ Below W.heap.size W W1 ∧ W1.heap[W.heap.size]? = some (.cells #[u0, u1] 28 (0, 0))) := ⟨h0, h1, hl0, hl1, ll0, ll1, b1, r1⟩
  obtain ⟨oa0, cap0, e0, -⟩ := id h0
  obtain ⟨oa1, cap1, e1, -⟩ := id h1
  clear hacts hW1 b1 r1 ll0 ll1 h0 h1 hl0 hl1
  obtain ⟨n0, hn0⟩ : ∃ n, l0.length = n := ⟨_, rfl⟩
  obtain ⟨n1, hn1⟩ : ∃ n, l1.length = n := ⟨_, rfl⟩
  rw [hn0, hn1] at C1
  rw [hn0] at e0
  rw [hn1] at e1
  have HNN : Hid (l0.length = n0 ∧ l1.length = n1) := ⟨hn0, hn1⟩
  subst e0 e1
  clear hn0 hn1
  go_enter Try.func4, Try.ntmps4
  go_wp2_with fail
  rw [HW1.out]
  refine Calls.mono C1.out ?_
  rintro e X1 ⟨rfl, hX1⟩
  clear C1 ld1
  obtain ⟨X2, hX2⟩ : ∃ X2, X1.alloc (.cells #[.slice (some ⟨W1.heap.size + 2, 0, none⟩) n0 n0, .slice (some ⟨W1.heap.size + 3, 0, none⟩) n1 n1] 28) = X2 := ⟨_, rfl⟩
  have b2 : Below X1.heap.size X1 X2 := by rw [← hX2]; exact (Below.refl _ X1).alloc (Nat.le_refl _) _
  have r2 : X2.heap[X1.heap.size]? = some (.cells #[.slice (some ⟨W1.heap.size + 2, 0, none⟩) n0 n0, .slice (some ⟨W1.heap.size + 3, 0, none⟩) n1 n1] 28 (0, 0)) := by rw [← hX2]; exact heap_alloc_new _ _
  have g0 : X2.heap[W1.heap.size + 2]? = some (rw8 l0) := (b2.block _ (by have := hX1.2.1; omega)).trans hX1.2.2.1
  have g1 : X2.heap[W1.heap.size + 3]? = some (rw8 l1) := (b2.block _ (by have := hX1.2.1; omega)).trans hX1.2.2.2
  have z2 : X2.heap.size = W1.heap.size + 5 := by rw [← hX2]; simp [hX1.2.1]
  have z1 : X1.heap.size = W1.heap.size + 4 := hX1.2.1
  have q0 : Bl X2 (.slice (some ⟨W1.heap.size + 2, 0, none⟩) n0 n0) l0 := by
    have := bl_row g0 (by obtain ⟨_, _, _, _, _, h, _⟩ := HB.out.1; exact h) HB.out.2.2.2.2.1
    rwa [HNN.out.1] at this
  have q1 : Bl X2 (.slice (some ⟨W1.heap.size + 3, 0, none⟩) n1 n1) l1 := by
    have := bl_row g1 (by obtain ⟨_, _, _, _, _, h, _⟩ := HB.out.2.1; exact h) HB.out.2.2.2.2.2.1
    rwa [HNN.out.2] at this
  have b12 : Below W1.heap.size W1 X2 := hX1.1.trans (b2.mono hX1.1.size)
  have C2 : Hid _ := new_any X2 _ _ l0 l1 q0 q1 HB.out.2.2.2.2.1 HB.out.2.2.2.2.2.1
  have ld2 := ld_Drow X2 X1.heap.size _ rfl r2
  rw [← hX2] at ld2
  have HX2 : Hid (_ = X2) := hX2
  have HS2 : Hid (Below W1.heap.size W1 X2 ∧ X2.heap[X1.heap.size]? = some (.cells #[.slice (some ⟨W1.heap.size + 2, 0, none⟩) n0 n0, .slice (some ⟨W1.heap.size + 3, 0, none⟩) n1 n1] 28 (0, 0)) ∧ X2.heap[W1.heap.size + 2]? = some (rw8 l0) ∧ X2.heap[W1.heap.size + 3]? = some (rw8 l1) ∧ X2.heap.size = W1.heap.size + 5 ∧ X1.heap.size = W1.heap.size + 4) := ⟨b12, r2, g0, g1, z2, z1⟩
  clear hX1 hX2 b2 r2 g0 g1 z2 z1 q0 q1 b12
  go_wp2_with fail
  rw [HX2.out]
  refine Calls.mono C2.out ?_
  rintro e X3 ⟨rfl, hX3⟩
  clear C2 ld2
  have b3 : Below X2.heap.size X2 X3 := hX3.1
  have b13 : Below W1.heap.size W1 X3 := HS2.out.1.trans (b3.mono HS2.out.1.size)
  have bW3 : Below W.heap.size W X3 := HB.out.2.2.2.2.2.2.1.trans (b13.mono HB.out.2.2.2.2.2.2.1.size)
  have rr1 : W.heap.size < W1.heap.size := (Array.getElem?_eq_some_iff.1 HB.out.2.2.2.2.2.2.2).1
  have r3 : X3.heap[W.heap.size]? = some (.cells #[.slice oa0 n0 cap0, .slice oa1 n1 cap1] 28 (0, 0)) := (b13.block _ rr1).trans HB.out.2.2.2.2.2.2.2
  have ld3' := ld_Drow X3 W.heap.size _ rfl r3
  have C3 : Hid _ := NewR_any X3 _ _ l0 l1 (HB.out.1.below bW3) (HB.out.2.1.below bW3) HB.out.2.2.2.2.1 HB.out.2.2.2.2.2.1
  obtain ⟨f3, hdv3⟩ := @dv_of H0 _ _ _ hX3 (Nat.zero_le _)
  have HS3 : Hid (Below X2.heap.size X2 X3 ∧ Below W.heap.size W X3 ∧ X3.heap[W.heap.size]? = some (.cells #[.slice oa0 n0 cap0, .slice oa1 n1 cap1] 28 (0, 0)) ∧ @Dv H0 X2.heap.size X3 (X2.heap.size + 1) (.slice none 0 0) f3 [] [((l0, l0.length), (l1, l1.length))] ∧ W.heap.size < W1.heap.size) := ⟨b3, bW3, r3, hdv3, rr1⟩
  clear hX3 b3 b13 bW3 r3 rr1 hdv3
  go_wp2_with fail
  refine Calls.mono C3.out ?_
  rintro e X4 ⟨rfl, c4, hX4⟩
  clear C3 ld3'
  have b4 : Below X3.heap.size X3 X4 := hX4.bel
  have hro4 := @nr_ro H0 _ _ _ _ _ _ hX4 HB.out.2.2.1 HB.out.2.2.2.1 (Nat.zero_le _)
  have hdv4 := @Dv.below H0 _ _ _ _ _ _ _ _ HS3.out.2.2.2.1 b4
  have bW4 : Below W.heap.size W X4 := HS3.out.2.1.trans (b4.mono HS3.out.2.1.size)
  have s23 := HS3.out.1.size
  have s34 := b4.size
  have b24 : Below X2.heap.size X2 X4 := HS3.out.1.trans (b4.mono s23)
  have r4 : X4.heap[W.heap.size]? = some (.cells #[.slice oa0 n0 cap0, .slice oa1 n1 cap1] 28 (0, 0)) := (b4.block _ (Array.getElem?_eq_some_iff.1 HS3.out.2.2.1).1).trans HS3.out.2.2.1
  have o4 := (b24.block _ (Array.getElem?_eq_some_iff.1 HS2.out.2.1).1).trans HS2.out.2.1
  have ga := (b24.block _ (Array.getElem?_eq_some_iff.1 HS2.out.2.2.1).1).trans HS2.out.2.2.1
  have gb := (b24.block _ (Array.getElem?_eq_some_iff.1 HS2.out.2.2.2.1).1).trans HS2.out.2.2.2.1
  have lda := ld_Drow X4 X1.heap.size _ rfl o4
  have ldb := ld_Drow X4 W.heap.size _ rfl r4
  have q0 : Bl X4 (.slice (some ⟨W1.heap.size + 2, 0, none⟩) n0 n0) l0 := by
    have := bl_row ga (by obtain ⟨_, _, _, _, _, h, _⟩ := HB.out.1; exact h) HB.out.2.2.2.2.1
    rwa [HNN.out.1] at this
  have q1 : Bl X4 (.slice (some ⟨W1.heap.size + 3, 0, none⟩) n1 n1) l1 := by
    have := bl_row gb (by obtain ⟨_, _, _, _, _, h, _⟩ := HB.out.2.1; exact h) HB.out.2.2.2.2.2.1
    rwa [HNN.out.2] at this
  have C4 : Hid _ := same_eq q0 q1 (HB.out.1.below bW4) (HB.out.2.1.below bW4)
  have HO : Hid (Ow W X1.heap.size (W1.heap.size + 2) (W1.heap.size + 3) n0 n1 X2.heap.size X3.heap.size (X2.heap.size + 1) (X3.heap.size + 1) l0 l1 X4) := by
    have z2 := HS2.out.2.2.2.2.1
    have z1 := HS2.out.2.2.2.2.2
    have := HS3.out.2.2.2.2
    exact ⟨bW4, o4, ⟨_, ga, by simp [bs_len, HNN.out.1]⟩, ⟨_, gb, by simp [bs_len, HNN.out.2]⟩, ⟨f3, hdv4⟩, hro4, by omega⟩
  clear hX4 b4 hro4 hdv4 bW4 s23 s34 b24 r4 o4 ga gb q0 q1
  go_wp2_with fail
  refine Calls.mono C4.out ?_
  rintro e X5 ⟨rfl, hX5⟩
  clear C4 lda ldb
  have HO5 : Hid (Ow W X1.heap.size (W1.heap.size + 2) (W1.heap.size + 3) n0 n1 X2.heap.size X3.heap.size (X2.heap.size + 1) (X3.heap.size + 1) l0 l1 X5) := HO.out.below hX5
  clear HO hX5
  obtain ⟨ob, hob⟩ : ∃ x, X1.heap.size = x := ⟨_, rfl⟩
  obtain ⟨ga, hga⟩ : ∃ x, W1.heap.size + 2 = x := ⟨_, rfl⟩
  obtain ⟨gb, hgb⟩ : ∃ x, W1.heap.size + 3 = x := ⟨_, rfl⟩
  obtain ⟨v, hv⟩ : ∃ x, X2.heap.size + 1 = x := ⟨_, rfl⟩
  obtain ⟨vr, hvr⟩ : ∃ x, X3.heap.size + 1 = x := ⟨_, rfl⟩
  obtain ⟨lo, hlo⟩ : ∃ x, X2.heap.size = x := ⟨_, rfl⟩
  obtain ⟨lr, hlr⟩ : ∃ x, X3.heap.size = x := ⟨_, rfl⟩
  rw [hv, hvr, hob, hga, hgb] at HO5 ⊢
  rw [hlo, hlr] at HO5
  clear hob hga hgb hv hvr hlo hlr HS2 HS3 HX2 HW1
  go_wp2_with fail
  go_loopw [8] (fun iv wr => (iv = .int .i64 0 ∨ iv = .int .i64 1 ∨ iv = .int .i64 2) ∧ Hid (Ow W ob ga gb n0 n1 lo lr v vr l0 l1 wr)) (fun iv _ => 2 - (intOf iv).toNat)
  case atStart => exact ⟨.inl rfl, HO5⟩
  case round =>
    obtain ⟨hiv, HR⟩ := hrel
    clear HO5
    rcases hiv with rfl | rfl | rfl
    · as_aux_lemma =>
        go_wp2_with fail
        go_loopw [9] (fun jv wq => ∃ i : Nat, jv = .int .i64 (i : Int) ∧ Hid (i ≤ n0 ∧ Ow W ob ga gb n0 n1 lo lr v vr l0 l1 wq)) (fun jv _ => n0 + 1 - (intOf jv).toNat)
        case atStart => exact ⟨0, rfl, ⟨Nat.zero_le _, HR.out⟩⟩
        case round =>
          obtain ⟨i, rfl, HI⟩ := hrel
          have bx := HI.out.2.own
          have cx : wr.cell? ⟨ob, 0, none⟩ = some (.slice (some ⟨ga, 0, none⟩) n0 n0) := by rw [cell_of_row _ _ _ _ _ _ bx]; rfl
          clear bx
          by_cases hi : i < n0
          · obtain ⟨u, cg, fg, HX⟩ := HI.out.2.set ga n0 (.inl ⟨rfl, rfl⟩) i hi
            have HX2 : Hid _ := HX
            have hi0 : (0 : Int) ≤ (i : Int) := by omega
            have hi1 : (i : Int) < (n0 : Int) := by omega
            have w1 : IntKind.i64.wrap ((i : Int) + 1) = (i : Int) + 1 := by rw [IntKind.wrap_i64]; have := HB.out; have := HNN.out; omega
            have HL : Hid (i < n0) := hi
            clear HX hi
            go_wp2_with fail
            go_roundw
            case rel => exact ⟨i + 1, by go_num, ⟨HL.out, HX2.out _⟩⟩
            case measure => have := HL.out; simp [intOf]; omega
          · have hi2 : ¬ ((i : Int) < (n0 : Int)) := by omega
            have HF : Hid _ := HI.out.2
            clear hi
            go_wp2_with fail
            go_roundw
            case rel => exact ⟨by simp, HF⟩
            case measure => simp [intOf]
    · as_aux_lemma =>
        go_wp2_with fail
        go_loopw [9] (fun jv wq => ∃ i : Nat, jv = .int .i64 (i : Int) ∧ Hid (i ≤ n1 ∧ Ow W ob ga gb n0 n1 lo lr v vr l0 l1 wq)) (fun jv _ => n1 + 1 - (intOf jv).toNat)
        case atStart => exact ⟨0, rfl, ⟨Nat.zero_le _, HR.out⟩⟩
        case round =>
          obtain ⟨i, rfl, HI⟩ := hrel
          have bx := HI.out.2.own
          have cx : wr.cell? ⟨ob, 1, none⟩ = some (.slice (some ⟨gb, 0, none⟩) n1 n1) := by rw [cell_of_row _ _ _ _ _ _ bx]; rfl
          clear bx
          by_cases hi : i < n1
          · obtain ⟨u, cg, fg, HX⟩ := HI.out.2.set gb n1 (.inr ⟨rfl, rfl⟩) i hi
            have HX2 : Hid _ := HX
            have hi0 : (0 : Int) ≤ (i : Int) := by omega
            have hi1 : (i : Int) < (n1 : Int) := by omega
            have w1 : IntKind.i64.wrap ((i : Int) + 1) = (i : Int) + 1 := by rw [IntKind.wrap_i64]; have := HB.out; have := HNN.out; omega
            have HL : Hid (i < n1) := hi
            clear HX hi
            go_wp2_with fail
            go_roundw
            case rel => exact ⟨i + 1, by go_num, ⟨HL.out, HX2.out _⟩⟩
            case measure => have := HL.out; simp [intOf]; omega
          · have hi2 : ¬ ((i : Int) < (n1 : Int)) := by omega
            have HF : Hid _ := HI.out.2
            clear hi
            go_wp2_with fail
            go_roundw
            case rel => exact ⟨by simp, HF⟩
            case measure => simp [intOf]
    · have HP : Hid (@Pr H0 W v vr (l0, l1) (spOf (l0, l1) []) [] wr) := HR.out.pr
      have HBB : Hid (l0.length ≤ 50000000000000 ∧ l1.length ≤ 50000000000000) := ⟨HB.out.2.2.1, HB.out.2.2.2.1⟩
      clear HR HB HNN
      obtain ⟨B, hB⟩ : ∃ B : List Nat × List Nat, (l0, l1) = B := ⟨_, rfl⟩
      rw [hB] at HP
      have HBL : Hid (B.1.length ≤ 50000000000000 ∧ B.2.length ≤ 50000000000000) := by rw [← hB]; exact HBB.out
      clear hB HBB
      go_wp2_with fail
      go_loopw [10] (fun iv wr => ∃ i : Nat, iv = .int .i64 (i : Int) ∧ Hid (i ≤ 200 ∧ i ≤ N ∧ ∃ os, os.length ≤ i ∧ Tr B os ∧ @Pr H0 W v vr B (spOf B os) os wr)) (fun iv _ => 201 - (intOf iv).toNat)
      case atStart => exact ⟨0, rfl, ⟨by omega, by omega, [], Nat.le_refl _, (fun i o h => by simp at h), HP.out⟩⟩
      case round =>
        obtain ⟨i, rfl, HR⟩ := hrel
        clear HP
        by_cases hgo : i < N ∧ i < 200
        · have hi1 : (i : Int) < (N : Int) := by omega
          have hi2 : (i : Int) < 200 := by omega
          have hi0 : (0 : Int) ≤ (i : Int) := by omega
          obtain ⟨-, -, os, hos, hTr, hPr⟩ := HR.out
          obtain ⟨g, o, kd, fl, pv, l, n, k0, k1, rfl, hg, hrg, hBl, hll, hk0, hk1⟩ := HAC.out i hgo.1
          have ldact := ld_A wr g (o + i * 6) (actA kd fl pv n k0 k1) rfl (fun j u hu => (World.cell?_of_block (w := W) (a := ⟨g, o + i * 6 + j, none⟩) (hPr.qb.block g hg)).trans (hrg j u hu))
          obtain ⟨oa, cap, hpv, -⟩ := id hBl
          obtain ⟨pn, hpn⟩ : ∃ pn, l.length = pn := ⟨_, rfl⟩
          rw [hpn] at hpv
          subst hpv
          have w2 : IntKind.i64.wrap ((i : Int) + 1) = (i : Int) + 1 := by rw [IntKind.wrap_i64]; omega
          obtain ⟨A, hAe⟩ : ∃ A, wr.alloc (.cells #[.int .i64 kd, .int .i64 fl, .slice oa pn cap, .int .i64 n, .int .i64 k0, .int .i64 k1] 35) = A := ⟨_, rfl⟩
          have bA : Below wr.heap.size wr A := by rw [← hAe]; exact (Below.refl _ wr).alloc (Nat.le_refl _) _
          have rA : A.heap[wr.heap.size]? = some (.cells #[.int .i64 kd, .int .i64 fl, .slice oa pn cap, .int .i64 n, .int .i64 k0, .int .i64 k1] 35 (0, 0)) := by rw [← hAe]; exact heap_alloc_new _ _
          have HI : Hid (i < N ∧ i < 200 ∧ os.length ≤ i ∧ os.length < 1000 ∧ Tr B os ∧ l.length = pn ∧ l.length ≤ LIM) := ⟨hgo.1, hgo.2, hos, by omega, hTr, hpn, by unfold LIM; omega⟩
          have HPr : Hid (@Pr H0 W v vr B (spOf B os) os wr) := hPr
          have HPA : Hid (@Pr H0 W v vr B (spOf B os) os A) := @Pr.below H0 _ _ _ _ _ _ _ _ hPr bA
          have HA : Hid (wr.alloc (.cells #[.int .i64 kd, .int .i64 fl, .slice oa pn cap, .int .i64 n, .int .i64 k0, .int .i64 k1] 35) = A ∧ Below wr.heap.size wr A ∧ A.heap[wr.heap.size]? = some (.cells #[.int .i64 kd, .int .i64 fl, .slice oa pn cap, .int .i64 n, .int .i64 k0, .int .i64 k1] 35 (0, 0)) ∧ A.heap.size = wr.heap.size + 1) := ⟨hAe, bA, rA, by rw [← hAe]; simp⟩
          have HL : Hid (Bl W (.slice oa pn cap) l ∧ k0 < 9223372036854775808 ∧ k1 < 9223372036854775808 ∧ l.length ≤ 50000000000000) := ⟨hBl, hk0, hk1, hll⟩
          unfold actA at ldact
          clear hgo hos hTr hPr hg hrg hBl hll hk0 hk1 hpn hAe bA rA HR
          by_cases q0 : kd = 0
          · subst q0
            as_aux_lemma =>
              obtain ⟨ww, rfl⟩ : ∃ x, x = wr := ⟨_, rfl⟩
              have hpB := HL.out.1.below HPA.out.qb
              have C15 : Hid _ := copL_any A (.slice oa pn cap) l hpB HI.out.2.2.2.2.2.2
              obtain ⟨s, hs⟩ : ∃ s, mkS l = s := ⟨_, rfl⟩
              have HSl : Hid (mkS l = s) := hs
              obtain ⟨pb, pc, cur, Z, hap, bZ, hZr, hpr, hpt, hpl, hpc, hpm⟩ := app_new A l HL.out.2.2.2
              rw [HI.out.2.2.2.2.2.1] at hap hpt hpc C15
              obtain ⟨N1, hN1⟩ : ∃ N1, pn + 1 = N1 := ⟨_, rfl⟩
              rw [hN1] at hap hpt
              have bZw : Below ww.heap.size ww Z := HA.out.2.1.trans (bZ.mono HA.out.2.1.size)
              have HZ : Hid (Below ww.heap.size ww Z ∧ Z.heap[ww.heap.size]? = some (.cells #[.int .i64 0, .int .i64 fl, .slice oa pn cap, .int .i64 n, .int .i64 k0, .int .i64 k1] 35 (0, 0)) ∧ Z.heap[pb]? = some (.cells cur 5 (0, 0)) ∧ cur.toList.take N1 = bs l ++ [.int .u8 90] ∧ ww.heap.size ≤ pb ∧ pb < Z.heap.size ∧ N1 ≤ pc ∧ pc ≤ maxLen ∧ pn + 1 = N1) := ⟨bZw, (bZ.block _ (by have := HA.out.2.2.2; omega)).trans HA.out.2.2.1, hpr, hpt, by have := HA.out.2.2.2; omega, (Array.getElem?_eq_some_iff.1 hpr).1, by omega, hpm, hN1⟩
              have HPZ : Hid (@Pr (H1 ww.heap.size Z.heap.size) W v vr B (spOf B os) os Z) := HPr.out.enter bZw
              have hi00 : (0 : Int) ≤ (pn : Int) := by omega
              have hi11 : (pn : Int) < (N1 : Int) := by omega
              have hbP : ∀ Y : World, Y.heap[pb]? = some (.cells cur 5 (0, 0)) → Bl Y (.slice (some ⟨pb, 0, none⟩) pn pc) l ∧ Y.cell? ⟨pb, pn, none⟩ = some (.int .u8 90) := fun Y hY => by
                have := app_bl hY (by rw [HI.out.2.2.2.2.2.1, hN1]; exact hpt) (by rw [HI.out.2.2.2.2.2.1]; omega) hpm (by obtain ⟨_, _, _, _, _, h, _⟩ := hpB; exact h)
                rwa [HI.out.2.2.2.2.2.1] at this
              have HbP : Hid _ := hbP
              clear hpB hs bZ hZr hpr hpt hpl hpc hpm hN1 bZw hbP
              go_wp2_with fail
              rw [HA.out.1]
              refine Calls.mono C15.out ?_
              rintro e X15 ⟨rfl, hX15⟩
              have hX15' := hX15.symm
              subst hX15'
              clear C15
              go_wp2_with fail

              obtain ⟨E, hE⟩ : ∃ E, appE fl (stt B os) l.length = E := ⟨_, rfl⟩
              have HE : Hid (appE fl (stt B os) l.length = E) := hE
              clear hE

              refine wp_region_vals (ops := regA) (V := VA v vr ww.heap.size pb pn N1 pc cap oa s fl E) (S := @St3 (H1 ww.heap.size Z.heap.size) W Z v vr B (spOf B os) (spOf B (nx E (0, fl.toNat, l, 0) os)) os (nx E (0, fl.toNat, l, 0) os) 8 14) (by kernel_rfl) (fun i o ho => (okR_at ok_regA ho).1) (fun i j o oj d ho hj q1 q2 => (okR_at ok_regA ho).2.2 j oj d hj q1 q2) (fun i o d ho q => (okR_at ok_regA ho).2.1 d q)
                (stepA1 _ v vr ww.heap.size pb pn N1 pc cap oa s fl E _ _ rfl rfl rfl rfl (fun i hi l Y h => by simp only [Bool.and_eq_true, decide_eq_true_eq] at hi; exact h.mv i hi.1.2 hi.2)
                  (fun ll Y h _ hu _ => by
                    have := cAppend (h.q0 hu) HI.out.2.2.2.1 fl (some ⟨pb, 0, none⟩) pn pc l (HbP.out Y (h.row HZ.out.2.2.1 (by decide) (by decide) (by decide) (by decide))).1 HI.out.2.2.2.2.2.2
                    rw [HE.out] at this
                    exact this.mono fun e w' ⟨a1, a2, a3⟩ => ⟨a1, h.ci (by omega) hu a2 a3⟩)
                  (fun ll Y h _ hu hd => by
                    have h3 : ll.getD 8 true = true := gd_true (hd 8 (by kernel_rfl))
                    have := dAppend (h.q1 h3 hu) HI.out.2.2.2.1 fl oa pn cap l (HL.out.1.below h.bel) HI.out.2.2.2.2.2.2
                    rw [HE.out] at this
                    exact this.mono fun e w' ⟨a1, a2, a3⟩ => ⟨a1, h.cj (by omega) h3 a2 a3⟩)
                  (fun l Y h _ _ _ => ⟨Y, ld3 Y (by rw [cell_of_row _ _ _ _ _ _ (h.row HZ.out.2.1 (by decide) (by decide) (by decide) (by decide))]; rfl), h.mv 2 (by omega) (by omega)⟩)
                  (fun l Y h _ _ _ => ⟨Y, ld25 Y (by rw [cell_of_row _ _ _ _ _ _ (h.row HZ.out.2.1 (by decide) (by decide) (by decide) (by decide))]; rfl), h.mv 5 (by omega) (by omega)⟩)
                  (fun l Y h _ _ _ => ⟨Y, ld3 Y (by rw [cell_of_row _ _ _ _ _ _ (h.row HZ.out.2.1 (by decide) (by decide) (by decide) (by decide))]; rfl), h.mv 11 (by omega) (by omega)⟩)
                  (fun l Y h _ _ _ => ⟨Y, ld25 Y (by rw [cell_of_row _ _ _ _ _ _ (h.row HZ.out.2.1 (by decide) (by decide) (by decide) (by decide))]; rfl), h.mv 13 (by omega) (by omega)⟩)
                  (fun l Y h _ _ _ => ⟨Y, ld25 Y (by rw [cell_of_row _ _ _ _ _ _ (h.row HZ.out.2.1 (by decide) (by decide) (by decide) (by decide))]; rfl), h.mv 19 (by omega) (by omega)⟩)
                  (fun l Y h _ _ _ => ⟨Y, ld25 Y (by rw [cell_of_row _ _ _ _ _ _ (h.row HZ.out.2.1 (by decide) (by decide) (by decide) (by decide))]; rfl), h.mv 24 (by omega) (by omega)⟩)
                  (fun l Y h _ _ _ => ⟨Y, ld25 Y (by rw [cell_of_row _ _ _ _ _ _ (h.row HZ.out.2.1 (by decide) (by decide) (by decide) (by decide))]; rfl), h.mv 31 (by omega) (by omega)⟩)
                  (fun l Y h _ _ _ => ⟨Y, run_slh Y _ _ _ _ (by have := HZ.out.2.2.2.2.2.2; omega), h.mv 7 (by omega) (by omega)⟩)
                  (fun l Y h _ _ _ => ⟨Y, run_slh Y _ _ _ _ (by have := HZ.out.2.2.2.2.2.2; omega), h.mv 21 (by omega) (by omega)⟩)
                  (fun ll Y h _ _ _ => ⟨Y, by have := cv_bl (HbP.out Y (h.row HZ.out.2.2.1 (by decide) (by decide) (by decide) (by decide))).1; rwa [HSl.out] at this, h.mv 22 (by omega) (by omega)⟩)
                  (fun ll Y h _ _ _ => ⟨Y, by have := cv_bl (HL.out.1.below h.bel); rwa [HSl.out] at this, h.mv 25 (by omega) (by omega)⟩)
                  (fun l Y h _ _ _ => ⟨Y, ld5 Y (HbP.out Y (h.row HZ.out.2.2.1 (by decide) (by decide) (by decide) (by decide))).2, h.mv 34 (by omega) (by omega)⟩) hi00 hi11)
                (by rw [show regA.size = 38 from by kernel_rfl]; exact St3.start (by omega) (by omega) HPZ.out ⟨rfl, rfl, rfl, Nat.le_refl _, fun _ _ => rfl⟩) (fun wE hE => ?_)
              rw [putA]
              rw [show regA.size = 38 from by kernel_rfl] at hE
              have HFk : Hid (@Pr (H1 ww.heap.size Z.heap.size) W v vr B (spOf B (nx E (0, fl.toNat, l, 0) os)) (nx E (0, fl.toNat, l, 0) os) wE ∧ Kp Z wE) := hE.done (by omega)
              have HT : Hid ((nx E (0, fl.toNat, l, 0) os).length ≤ i + 1 ∧ Tr B (nx E (0, fl.toNat, l, 0) os)) := ⟨by have := nx_len E (0, fl.toNat, l, 0) os; have := HI.out.2.2.1; omega, HI.out.2.2.2.2.1.nx E _ (fun q => ok_app (HE.out.trans q))⟩
              clear hE
              simp only [VA]
              have HRp : Hid (wE.heap[pb]? = some (.cells cur 5 (0, 0))) := (HFk.out.2.block _ _ _ HZ.out.2.2.1 (by decide) (by decide) (by decide) (by decide)).trans HZ.out.2.2.1
              have hcs : N1 ≤ cur.size := by
                have h1 := congrArg List.length HZ.out.2.2.2.1
                rw [List.length_take, List.length_append, bs_len, HI.out.2.2.2.2.2.1, List.length_singleton, HZ.out.2.2.2.2.2.2.2.2] at h1
                have : cur.toList.length = cur.size := by simp
                omega
              have HCS : Hid (N1 ≤ cur.size ∧ N1 < 9000000000000000000) := ⟨hcs, by have := HI.out.2.2.2.2.2; have := HZ.out.2.2.2.2.2.2.2.2; unfold LIM at this; unfold LIM at *; omega⟩
              clear hcs hi00 hi11
              go_wp2_with fail
              go_loopw [14] (fun jv wr => ∃ k : Nat, jv = .int .i64 (k : Int) ∧ Hid (k ≤ N1 ∧ @Pr (H1 ww.heap.size Z.heap.size) W v vr B (spOf B (nx E (0, fl.toNat, l, 0) os)) (nx E (0, fl.toNat, l, 0) os) wr ∧ ∃ C, wr.heap[pb]? = some (.cells C 5 (0, 0)) ∧ N1 ≤ C.size)) (fun jv _ => N1 + 1 - (intOf jv).toNat)
              case atStart => exact ⟨0, rfl, ⟨Nat.zero_le _, HFk.out.1, cur, HRp.out, HCS.out.1⟩⟩
              case round =>
                obtain ⟨k, rfl, HK⟩ := hrel
                by_cases hk : k < N1
                · obtain ⟨-, hP, C, hC, hCs⟩ := HK.out
                  have hk0' : (0 : Int) ≤ (k : Int) := by omega
                  have hk1' : (k : Int) < (N1 : Int) := by omega
                  have w3 : IntKind.i64.wrap ((k : Int) + 1) = (k : Int) + 1 := by rw [IntKind.wrap_i64]; have := HCS.out.2; omega
                  obtain ⟨u, cg⟩ : ∃ u, wr.cell? ⟨pb, k, none⟩ = some u := ⟨C[k], by rw [cell_of_row _ _ _ _ _ _ hC]; exact Array.getElem?_eq_getElem (by omega)⟩
                  have fg : wr.frozen? ⟨pb, k, none⟩ = false := frozen_of_row _ _ _ _ _ hC
                  have HX : Hid (∀ x, @Pr (H1 ww.heap.size Z.heap.size) W v vr B (spOf B (nx E (0, fl.toNat, l, 0) os)) (nx E (0, fl.toNat, l, 0) os) (wr.setCell ⟨pb, k, none⟩ x) ∧ ∃ C, (wr.setCell ⟨pb, k, none⟩ x).heap[pb]? = some (.cells C 5 (0, 0)) ∧ N1 ≤ C.size) := fun x => ⟨hP.hset ⟨HZ.out.2.2.2.2.1, HZ.out.2.2.2.2.2.1⟩ (Nat.le_trans HPr.out.qb.size HZ.out.2.2.2.2.1) hC k x, _, heap_setCell_same _ _ _ _ _ _ hC, by rw [Array.size_setIfInBounds]; exact hCs⟩
                  have HKl : Hid (k < N1) := hk
                  clear hP hC hCs hk HK
                  go_wp2_with fail
                  go_roundw
                  case rel => exact ⟨k + 1, by go_num, ⟨HKl.out, (HX.out _).1, (HX.out _).2⟩⟩
                  case measure => have := HKl.out; simp [intOf]; omega
                · have hk2 : ¬ ((k : Int) < (N1 : Int)) := by omega
                  have HF : Hid _ := HK.out.2.1.leave
                  clear hk HK
                  have C8 : Hid _ := cCount HF.out
                  have C22 : Hid _ := dCount HF.out
                  go_wp2_with fail
                  refine Calls.mono C8.out ?_
                  rintro e w8 ⟨rfl, hw⟩
                  have hw2 := hw.symm
                  subst hw2
                  go_wp2_with fail
                  refine Calls.mono C22.out ?_
                  rintro e w9 ⟨rfl, hw⟩
                  have hw2 := hw.symm
                  subst hw2
                  go_wp2_with fail
                  go_roundw
                  case rel => exact ⟨i + 1, by go_num, ⟨by have := HI.out.2.1; omega, HI.out.1, _, HT.out.1, HT.out.2, HF.out⟩⟩
                  case measure => have := HI.out.2.1; simp [intOf]; omega
          · by_cases q1 : kd = 1
            · subst q1
              clear q0
              as_aux_lemma =>
                go_wp2_with fail
                rw [HA.out.1]

                obtain ⟨E, hE⟩ : ∃ E, synE fl = E := ⟨_, rfl⟩
                have HE : Hid (synE fl = E) := hE
                clear hE

                refine wp_region_vals (ops := regS) (V := VS v vr wr.heap.size fl E) (S := @St3 H0 W A v vr B (spOf B os) (spOf B (nx E (1, fl.toNat, [], 0) os)) os (nx E (1, fl.toNat, [], 0) os) 3 7) (by kernel_rfl) (fun i o ho => (okR_at ok_regS ho).1) (fun i j o oj d ho hj q1 q2 => (okR_at ok_regS ho).2.2 j oj d hj q1 q2) (fun i o d ho q => (okR_at ok_regS ho).2.1 d q)
                  (stepS1 _ v vr wr.heap.size fl E _ _ rfl rfl rfl (fun i hi l Y h => by simp only [Bool.and_eq_true, decide_eq_true_eq] at hi; exact h.mv i hi.1.2 hi.2)
                    (fun ll Y h _ hu _ => by
                      have := cSync (h.q0 hu) HI.out.2.2.2.1 fl
                      rw [HE.out] at this
                      exact this.mono fun e w' ⟨a1, a2, a3⟩ => ⟨a1, h.ci (by omega) hu a2 a3⟩)
                    (fun ll Y h _ hu hd => by
                      have h3 : ll.getD 3 true = true := gd_true (hd 3 (by kernel_rfl))
                      have := dSync (h.q1 h3 hu) HI.out.2.2.2.1 fl
                      rw [HE.out] at this
                      exact this.mono fun e w' ⟨a1, a2, a3⟩ => ⟨a1, h.cj (by omega) h3 a2 a3⟩)
                    (fun l Y h _ _ _ => ⟨Y, ld3 Y (by rw [cell_of_row _ _ _ _ _ _ (h.row HA.out.2.2.1 (by decide) (by decide) (by decide) (by decide))]; rfl), h.mv 2 (by omega) (by omega)⟩)
                    (fun l Y h _ _ _ => ⟨Y, ld3 Y (by rw [cell_of_row _ _ _ _ _ _ (h.row HA.out.2.2.1 (by decide) (by decide) (by decide) (by decide))]; rfl), h.mv 6 (by omega) (by omega)⟩))
                  (by rw [show regS.size = 10 from by kernel_rfl]; exact St3.start (by omega) (by omega) HPA.out ⟨rfl, rfl, rfl, Nat.le_refl _, fun _ _ => rfl⟩) (fun wE hE => ?_)
                rw [putS]
                rw [show regS.size = 10 from by kernel_rfl] at hE
                have HFk : Hid (@Pr H0 W v vr B (spOf B (nx E (1, fl.toNat, [], 0) os)) (nx E (1, fl.toNat, [], 0) os) wE ∧ Kp A wE) := hE.done (by omega)
                have HT : Hid ((nx E (1, fl.toNat, [], 0) os).length ≤ i + 1 ∧ Tr B (nx E (1, fl.toNat, [], 0) os)) := ⟨by have := nx_len E (1, fl.toNat, [], 0) os; have := HI.out.2.2.1; omega, HI.out.2.2.2.2.1.nx E _ (fun q => ok_syn (HE.out.trans q))⟩
                clear hE
                simp only [VS]
                have HF : Hid _ := HFk.out.1

                have C8 : Hid _ := cCount HF.out
                have C22 : Hid _ := dCount HF.out
                go_wp2_with fail
                refine Calls.mono C8.out ?_
                rintro e w8 ⟨rfl, hw⟩
                have hw2 := hw.symm
                subst hw2
                go_wp2_with fail
                refine Calls.mono C22.out ?_
                rintro e w9 ⟨rfl, hw⟩
                have hw2 := hw.symm
                subst hw2
                go_wp2_with fail
                go_roundw
                case rel => exact ⟨i + 1, by go_num, ⟨by have := HI.out.2.1; omega, HI.out.1, _, HT.out.1, HT.out.2, HF.out⟩⟩
                case measure => have := HI.out.2.1; simp [intOf]; omega
            · by_cases q2 : kd = 2
              · subst q2
                clear q0 q1
                as_aux_lemma =>
                  go_wp2_with fail
                  rw [HA.out.1]

                  obtain ⟨E, hE⟩ : ∃ E, cutE fl (stt B os) n = E := ⟨_, rfl⟩
                  have HE : Hid (cutE fl (stt B os) n = E) := hE
                  clear hE

                  refine wp_region_vals (ops := regC) (V := VC v vr wr.heap.size fl n E) (S := @St3 H0 W A v vr B (spOf B os) (spOf B (nx E (2, fl.toNat, [], n.toNat) os)) os (nx E (2, fl.toNat, [], n.toNat) os) 5 11) (by kernel_rfl) (fun i o ho => (okR_at ok_regC ho).1) (fun i j o oj d ho hj q1 q2 => (okR_at ok_regC ho).2.2 j oj d hj q1 q2) (fun i o d ho q => (okR_at ok_regC ho).2.1 d q)
                    (stepC1 _ v vr wr.heap.size fl n E _ _ rfl rfl rfl (fun i hi l Y h => by simp only [Bool.and_eq_true, decide_eq_true_eq] at hi; exact h.mv i hi.1.2 hi.2)
                      (fun ll Y h _ hu _ => by
                        have := cCut (h.q0 hu) HI.out.2.2.2.1 fl n
                        rw [HE.out] at this
                        exact this.mono fun e w' ⟨a1, a2, a3⟩ => ⟨a1, h.ci (by omega) hu a2 a3⟩)
                      (fun ll Y h _ hu hd => by
                        have h3 : ll.getD 5 true = true := gd_true (hd 5 (by kernel_rfl))
                        have := dCut (h.q1 h3 hu) HI.out.2.2.2.1 fl n
                        rw [HE.out] at this
                        exact this.mono fun e w' ⟨a1, a2, a3⟩ => ⟨a1, h.cj (by omega) h3 a2 a3⟩)
                      (fun l Y h _ _ _ => ⟨Y, ld3 Y (by rw [cell_of_row _ _ _ _ _ _ (h.row HA.out.2.2.1 (by decide) (by decide) (by decide) (by decide))]; rfl), h.mv 2 (by omega) (by omega)⟩)
                      (fun l Y h _ _ _ => ⟨Y, ld3 Y (by rw [cell_of_row _ _ _ _ _ _ (h.row HA.out.2.2.1 (by decide) (by decide) (by decide) (by decide))]; rfl), h.mv 4 (by omega) (by omega)⟩)
                      (fun l Y h _ _ _ => ⟨Y, ld3 Y (by rw [cell_of_row _ _ _ _ _ _ (h.row HA.out.2.2.1 (by decide) (by decide) (by decide) (by decide))]; rfl), h.mv 8 (by omega) (by omega)⟩)
                      (fun l Y h _ _ _ => ⟨Y, ld3 Y (by rw [cell_of_row _ _ _ _ _ _ (h.row HA.out.2.2.1 (by decide) (by decide) (by decide) (by decide))]; rfl), h.mv 10 (by omega) (by omega)⟩))
                    (by rw [show regC.size = 14 from by kernel_rfl]; exact St3.start (by omega) (by omega) HPA.out ⟨rfl, rfl, rfl, Nat.le_refl _, fun _ _ => rfl⟩) (fun wE hE => ?_)
                  rw [putC]
                  rw [show regC.size = 14 from by kernel_rfl] at hE
                  have HFk : Hid (@Pr H0 W v vr B (spOf B (nx E (2, fl.toNat, [], n.toNat) os)) (nx E (2, fl.toNat, [], n.toNat) os) wE ∧ Kp A wE) := hE.done (by omega)
                  have HT : Hid ((nx E (2, fl.toNat, [], n.toNat) os).length ≤ i + 1 ∧ Tr B (nx E (2, fl.toNat, [], n.toNat) os)) := ⟨by have := nx_len E (2, fl.toNat, [], n.toNat) os; have := HI.out.2.2.1; omega, HI.out.2.2.2.2.1.nx E _ (fun q => ok_cut (HE.out.trans q))⟩
                  clear hE
                  simp only [VC]
                  have HF : Hid _ := HFk.out.1

                  have C8 : Hid _ := cCount HF.out
                  have C22 : Hid _ := dCount HF.out
                  go_wp2_with fail
                  refine Calls.mono C8.out ?_
                  rintro e w8 ⟨rfl, hw⟩
                  have hw2 := hw.symm
                  subst hw2
                  go_wp2_with fail
                  refine Calls.mono C22.out ?_
                  rintro e w9 ⟨rfl, hw⟩
                  have hw2 := hw.symm
                  subst hw2
                  go_wp2_with fail
                  go_roundw
                  case rel => exact ⟨i + 1, by go_num, ⟨by have := HI.out.2.1; omega, HI.out.1, _, HT.out.1, HT.out.2, HF.out⟩⟩
                  case measure => have := HI.out.2.1; simp [intOf]; omega
              · by_cases q3 : kd = 3
                · subst q3
                  clear q0 q1 q2
                  as_aux_lemma =>
                    have hK := ld_K A wr.heap.size _ _ _ _ _ _ HA.out.2.2.1
                    rw [← HA.out.1] at hK
                    have C11 : Hid _ := cAt HPA.out HI.out.2.2.2.1 n k0 k1 HL.out.2.1 HL.out.2.2.1
                    obtain ⟨p, hp⟩ : ∃ p, (atP B os n k0 k1).1 = p := ⟨_, rfl⟩
                    obtain ⟨q, hq⟩ : ∃ p, (atP B os n k0 k1).2 = p := ⟨_, rfl⟩
                    obtain ⟨E, hE⟩ : ∃ E, atE os n k0 k1 = E := ⟨_, rfl⟩
                    rw [hp, hq, hE] at C11
                    have HPQ : Hid ((atP B os n k0 k1).1 = p ∧ (atP B os n k0 k1).2 = q ∧ atE os n k0 k1 = E) := ⟨hp, hq, hE⟩
                    obtain ⟨m0, hm0⟩ : ∃ m, p.length = m := ⟨_, rfl⟩
                    obtain ⟨m1, hm1⟩ : ∃ m, q.length = m := ⟨_, rfl⟩
                    rw [hm0, hm1] at C11
                    have HM : Hid (p.length = m0 ∧ q.length = m1) := ⟨hm0, hm1⟩
                    clear hp hq hE hm0 hm1
                    go_wp2_with fail
                    rw [HA.out.1]
                    refine Calls.mono C11.out ?_
                    rintro e X ⟨o0, o1, rfl, hX⟩
                    clear C11 hK
                    obtain ⟨X1, hX1⟩ : ∃ X1, X.alloc (.cells #[.slice o0 m0 m0, .slice o1 m1 m1] 28) = X1 := ⟨_, rfl⟩
                    have bX1 : Below X.heap.size X X1 := by rw [← hX1]; exact (Below.refl _ X).alloc (Nat.le_refl _) _
                    have rX1 : X1.heap[X.heap.size]? = some (.cells #[.slice o0 m0 m0, .slice o1 m1 m1] 28 (0, 0)) := by rw [← hX1]; exact heap_alloc_new _ _
                    have hX' := hX.below bX1
                    have rA1 : X1.heap[wr.heap.size]? = some (.cells #[.int .i64 3, .int .i64 fl, .slice oa pn cap, .int .i64 n, .int .i64 k0, .int .i64 k1] 35 (0, 0)) := (hX'.bel.block _ (by have := HA.out.2.2.2; omega)).trans HA.out.2.2.1
                    have c3 : X1.cell? ⟨wr.heap.size, 3, none⟩ = some (.int .i64 n) := by rw [cell_of_row _ _ _ _ _ _ rA1]; rfl
                    have hK := ld_K X1 wr.heap.size _ _ _ _ _ _ rA1
                    have C19 : Hid _ := dAt (HPA.out.bw hX'.bel) HI.out.2.2.2.2.1 HBL.out HI.out.2.2.2.1 n k0 k1 HL.out.2.1 HL.out.2.2.1
                    rw [HPQ.out.1, HPQ.out.2.1, HPQ.out.2.2] at C19
                    rw [← hX1] at c3 hK
                    have HX1 : Hid (X.alloc (.cells #[.slice o0 m0 m0, .slice o1 m1 m1] 28) = X1 ∧ HoP A p q o0 o1 X1 ∧ X1.heap[X.heap.size]? = some (.cells #[.slice o0 m0 m0, .slice o1 m1 m1] 28 (0, 0))) := ⟨hX1, hX', rX1⟩
                    clear hX hX1 bX1 rX1 hX' rA1
                    go_wp2_with fail
                    rw [HX1.out.1]
                    refine Calls.mono C19.out ?_
                    rintro e Y ⟨c, rfl, a, b, rfl, ha, hb, bY⟩
                    clear C19 c3 hK
                    obtain ⟨oy, cy, e1, -⟩ := id ha
                    obtain ⟨oz, cz, e2, -⟩ := id hb
                    rw [HM.out.1] at e1
                    rw [HM.out.2] at e2
                    subst e1 e2
                    obtain ⟨Y1, hY1⟩ : ∃ Y1, Y.alloc (.cells #[.slice oy m0 cy, .slice oz m1 cz] 28) = Y1 := ⟨_, rfl⟩
                    have bY1 : Below Y.heap.size Y Y1 := by rw [← hY1]; exact (Below.refl _ Y).alloc (Nat.le_refl _) _
                    have rY1 : Y1.heap[Y.heap.size]? = some (.cells #[.slice oy m0 cy, .slice oz m1 cz] 28 (0, 0)) := by rw [← hY1]; exact heap_alloc_new _ _
                    have bXY := bY.trans (bY1.mono bY.size)
                    have hoY := HX1.out.2.1.below bXY
                    have rX := (bXY.block _ (Array.getElem?_eq_some_iff.1 HX1.out.2.2).1).trans HX1.out.2.2
                    have hb0 := hoY.b0
                    have hb1 := hoY.b1
                    rw [HM.out.1] at hb0
                    rw [HM.out.2] at hb1
                    have C14 : Hid _ := same_eq hb0 hb1 (ha.below bY1) (hb.below bY1)
                    have ldx := ld_Drow Y1 X.heap.size _ rfl rX
                    have ldy := ld_Drow Y1 Y.heap.size _ rfl rY1
                    rw [← hY1] at ldx ldy
                    have HY1 : Hid (Y.alloc (.cells #[.slice oy m0 cy, .slice oz m1 cz] 28) = Y1 ∧ HoP A p q o0 o1 Y1 ∧ Y1.heap[X.heap.size]? = some (.cells #[.slice o0 m0 m0, .slice o1 m1 m1] 28 (0, 0))) := ⟨hY1, hoY, rX⟩
                    clear hY1 bY1 rY1 bXY hoY rX hb0 hb1 ha hb bY
                    go_wp2_with fail
                    rw [HY1.out.1]
                    refine Calls.mono C14.out ?_
                    rintro e Z ⟨rfl, hZ⟩
                    clear C14 ldx ldy
                    have ldz := ld_Drow Z X.heap.size _ rfl ((hZ.block _ (Array.getElem?_eq_some_iff.1 HY1.out.2.2).1).trans HY1.out.2.2)
                    have C20 : Hid _ := (HY1.out.2.1.below hZ).wipe
                    rw [HM.out.1, HM.out.2] at C20
                    clear hZ
                    go_wp2_with fail
                    refine Calls.mono C20.out ?_
                    rintro e Z2 ⟨rfl, hZ2⟩
                    clear C20 ldz
                    have HF : Hid (@Pr H0 W v vr B (spOf B os) os Z2) := HPA.out.bw hZ2
                    have HT : Hid (os.length ≤ i + 1 ∧ Tr B os) := ⟨by have := HI.out.2.2.1; omega, HI.out.2.2.2.2.1⟩
                    clear hZ2

                    have C8 : Hid _ := cCount HF.out
                    have C22 : Hid _ := dCount HF.out
                    go_wp2_with fail
                    refine Calls.mono C8.out ?_
                    rintro e w8 ⟨rfl, hw⟩
                    have hw2 := hw.symm
                    subst hw2
                    go_wp2_with fail
                    refine Calls.mono C22.out ?_
                    rintro e w9 ⟨rfl, hw⟩
                    have hw2 := hw.symm
                    subst hw2
                    go_wp2_with fail
                    go_roundw
                    case rel => exact ⟨i + 1, by go_num, ⟨by have := HI.out.2.1; omega, HI.out.1, _, HT.out.1, HT.out.2, HF.out⟩⟩
                    case measure => have := HI.out.2.1; simp [intOf]; omega
                · as_aux_lemma =>
                    have C10 : Hid _ := cDisk HPA.out HI.out.2.2.2.1
                    obtain ⟨p, hp⟩ : ∃ p, (lk (stt B os)).1.1 = p := ⟨_, rfl⟩
                    obtain ⟨q, hq⟩ : ∃ p, (lk (stt B os)).2.1 = p := ⟨_, rfl⟩
                    rw [hp, hq] at C10
                    have HPQ : Hid ((lk (stt B os)).1.1 = p ∧ (lk (stt B os)).2.1 = q) := ⟨hp, hq⟩
                    obtain ⟨m0, hm0⟩ : ∃ m, p.length = m := ⟨_, rfl⟩
                    obtain ⟨m1, hm1⟩ : ∃ m, q.length = m := ⟨_, rfl⟩
                    rw [hm0, hm1] at C10
                    have HM : Hid (p.length = m0 ∧ q.length = m1) := ⟨hm0, hm1⟩
                    have kq0 : (kd == 0) = false := by simpa using q0
                    have kq1 : (kd == 1) = false := by simpa using q1
                    have kq2 : (kd == 2) = false := by simpa using q2
                    have kq3 : (kd == 3) = false := by simpa using q3
                    clear hp hq hm0 hm1
                    go_wp2_with fail
                    rw [HA.out.1]
                    refine Calls.mono C10.out ?_
                    rintro e X ⟨o0, o1, rfl, hX⟩
                    clear C10
                    obtain ⟨X1, hX1⟩ : ∃ X1, X.alloc (.cells #[.slice o0 m0 m0, .slice o1 m1 m1] 28) = X1 := ⟨_, rfl⟩
                    have bX1 : Below X.heap.size X X1 := by rw [← hX1]; exact (Below.refl _ X).alloc (Nat.le_refl _) _
                    have rX1 : X1.heap[X.heap.size]? = some (.cells #[.slice o0 m0 m0, .slice o1 m1 m1] 28 (0, 0)) := by rw [← hX1]; exact heap_alloc_new _ _
                    have hX' := hX.below bX1
                    have HX1 : Hid (X.alloc (.cells #[.slice o0 m0 m0, .slice o1 m1 m1] 28) = X1 ∧ HoP A p q o0 o1 X1 ∧ X1.heap[X.heap.size]? = some (.cells #[.slice o0 m0 m0, .slice o1 m1 m1] 28 (0, 0))) := ⟨hX1, hX', rX1⟩
                    clear hX hX1 bX1 rX1 hX'
                    go_wp2_with fail
                    rw [HX1.out.1]
                    have C21 : Hid (∀ Y0, Below X1.heap.size X1 Y0 → Calls Try.prog 21 #[.pointer (some ⟨vr, 0, none⟩)] Y0 fun e w' => ∃ oy cy oz cz, e = .returned (.agg #[.slice oy m0 cy, .slice oz m1 cz]) ∧ Bl w' (.slice oy m0 cy) p ∧ Bl w' (.slice oz m1 cz) q ∧ Below X1.heap.size X1 w') := fun Y0 hY0 => by
                      have := dDisk ((HPA.out.bw HX1.out.2.1.bel).bw hY0)
                      rw [HPQ.out.1, HPQ.out.2] at this
                      refine this.mono ?_
                      rintro e w' ⟨c, rfl, a, b, rfl, ha, hb, bY⟩
                      obtain ⟨oy, cy, e1, -⟩ := id ha
                      obtain ⟨oz, cz, e2, -⟩ := id hb
                      rw [HM.out.1] at e1
                      rw [HM.out.2] at e2
                      subst e1 e2
                      exact ⟨oy, cy, oz, cz, rfl, ha, hb, hY0.trans (bY.mono hY0.size)⟩
                    have C14 : Hid (∀ Y0 oy cy oz cz, Below X1.heap.size X1 Y0 → Bl Y0 (.slice oy m0 cy) p → Bl Y0 (.slice oz m1 cz) q → Calls Try.prog 14 #[.agg #[.slice o0 m0 m0, .slice o1 m1 m1], .agg #[.slice oy m0 cy, .slice oz m1 cz]] Y0 fun e w' => e = .returned (.bool true) ∧ Below X1.heap.size X1 w') := fun Y0 oy cy oz cz hY0 ha hb => by
                      have ho := HX1.out.2.1.below hY0
                      have hb0 := ho.b0
                      have hb1 := ho.b1
                      rw [HM.out.1] at hb0
                      rw [HM.out.2] at hb1
                      exact (same_eq hb0 hb1 ha hb).mono fun e w' ⟨a1, a2⟩ => ⟨a1, hY0.trans (a2.mono hY0.size)⟩
                    have hld : ∀ Y0, Below X1.heap.size X1 Y0 → (ldD (.pointer (some ⟨X.heap.size, 0, none⟩))).run Try.prog Y0 = .ok (.agg #[.slice o0 m0 m0, .slice o1 m1 m1]) Y0 := fun Y0 hY0 => ld_Drow Y0 X.heap.size _ rfl ((hY0.block _ (Array.getElem?_eq_some_iff.1 HX1.out.2.2).1).trans HX1.out.2.2)
                    have HLD : Hid _ := hld
                    have bd : Below X1.heap.size X1 X1.drew := ⟨rfl, rfl, rfl, Nat.le_refl _, fun _ _ => rfl⟩
                    have lx0 := hld X1.drew bd
                    have lx1 := hld X1 (Below.refl _ X1)
                    clear hld bd
                    go_region_with (first
                      | (go_at_call 14; refine Calls.mono (C14.out _ _ _ _ _ bY ha hb) ?_; rintro e Z ⟨rfl, bZ⟩)
                      | (go_at_call 21; refine Calls.mono (C21.out _ ⟨rfl, rfl, rfl, Nat.le_refl _, fun _ _ => rfl⟩) ?_; rintro e Y ⟨oy, cy, oz, cz, rfl, ha, hb, bY⟩; have ly := HLD.out Y bY))
                    all_goals
                      have ldz := HLD.out Z bZ
                      have C20 : Hid _ := (HX1.out.2.1.below bZ).wipe
                      rw [HM.out.1, HM.out.2] at C20
                      clear bZ bY ha hb ly
                      go_wp2_with fail
                      refine Calls.mono C20.out ?_
                      rintro e Z2 ⟨rfl, hZ2⟩
                      clear C20 ldz
                      have HF : Hid (@Pr H0 W v vr B (spOf B os) os Z2) := HPA.out.bw hZ2
                      have HT : Hid (os.length ≤ i + 1 ∧ Tr B os) := ⟨by have := HI.out.2.2.1; omega, HI.out.2.2.2.2.1⟩
                      clear hZ2
                      have C8 : Hid _ := cCount HF.out
                      have C22 : Hid _ := dCount HF.out
                      go_wp2_with fail
                      refine Calls.mono C8.out ?_
                      rintro e w8 ⟨rfl, hw⟩
                      have hw2 := hw.symm
                      subst hw2
                      go_wp2_with fail
                      refine Calls.mono C22.out ?_
                      rintro e w9 ⟨rfl, hw⟩
                      have hw2 := hw.symm
                      subst hw2
                      go_wp2_with fail
                      go_roundw
                      case rel => exact ⟨i + 1, by go_num, ⟨by have := HI.out.2.1; omega, HI.out.1, _, HT.out.1, HT.out.2, HF.out⟩⟩
                      case measure => have := HI.out.2.1; simp [intOf]; omega
        · have hend : ¬ ((i : Int) < (N : Int)) ∨ (i : Int) < (N : Int) ∧ ¬ ((i : Int) < 200) := by omega
          have HE : Hid (∃ os : List Opn, os.length < 1000 ∧ Tr B os ∧ @Pr H0 W v vr B (spOf B os) os wr) := by
            obtain ⟨os, q1, q2, q3⟩ := HR.out.2.2
            exact ⟨os, by have := HR.out.1; omega, q2, q3⟩
          clear hgo HR
          obtain ⟨os, hos, hTr, hPr⟩ := HE.out
          have C8 : Hid _ := cCount hPr
          have C11 : Hid _ := cAt hPr hos (os.length : Int) 0 0 (by omega) (by omega)
          obtain ⟨p, hp⟩ : ∃ p, (atP B os (os.length : Int) 0 0).1 = p := ⟨_, rfl⟩
          obtain ⟨q, hq⟩ : ∃ p, (atP B os (os.length : Int) 0 0).2 = p := ⟨_, rfl⟩
          obtain ⟨E, hE⟩ : ∃ E, atE os (os.length : Int) 0 0 = E := ⟨_, rfl⟩
          rw [hp, hq, hE] at C11
          obtain ⟨m0, hm0⟩ : ∃ m, p.length = m := ⟨_, rfl⟩
          obtain ⟨m1, hm1⟩ : ∃ m, q.length = m := ⟨_, rfl⟩
          rw [hm0, hm1] at C11
          obtain ⟨s, hs⟩ : ∃ p, (lk (stt B os)).1.1 = p := ⟨_, rfl⟩
          obtain ⟨t, ht⟩ : ∃ p, (lk (stt B os)).2.1 = p := ⟨_, rfl⟩
          obtain ⟨j0, hj0⟩ : ∃ m, s.length = m := ⟨_, rfl⟩
          obtain ⟨j1, hj1⟩ : ∃ m, t.length = m := ⟨_, rfl⟩
          obtain ⟨cn, hcn⟩ : ∃ m : Nat, os.length = m := ⟨_, rfl⟩
          rw [hcn] at C8 C11
          have HG : Hid (@Pr H0 W v vr B (spOf B os) os wr ∧ Tr B os ∧ os.length < 1000 ∧ (atP B os (os.length : Int) 0 0).1 = p ∧ (atP B os (os.length : Int) 0 0).2 = q ∧ atE os (os.length : Int) 0 0 = E ∧ p.length = m0 ∧ q.length = m1 ∧ (lk (stt B os)).1.1 = s ∧ (lk (stt B os)).2.1 = t ∧ s.length = j0 ∧ t.length = j1 ∧ os.length = cn) := ⟨hPr, hTr, hos, hp, hq, hE, hm0, hm1, hs, ht, hj0, hj1, hcn⟩
          clear hos hTr hPr hp hq hE hm0 hm1 hs ht hj0 hj1 HE hcn
          have hgo : (if (i : Int) < (N : Int) then decide ((i : Int) < 200) else false) = false := by
            rcases hend with h | ⟨h, h'⟩
            · rw [if_neg h]
            · rw [if_pos h]; simpa using h'
          rcases hend with hend | ⟨hend, hend2⟩
          all_goals
            clear hgo
            go_wp2_with fail
            refine Calls.mono C8.out ?_
            rintro e w8 ⟨rfl, hw⟩
            have hw2 := hw.symm
            subst hw2
            clear C8
            go_wp2_with fail
            refine Calls.mono C11.out ?_
            rintro e X ⟨o0, o1, rfl, hX⟩
            clear C11
            obtain ⟨X1, hX1⟩ : ∃ X1, X.alloc (.cells #[.slice o0 m0 m0, .slice o1 m1 m1] 28) = X1 := ⟨_, rfl⟩
            have bX1 : Below X.heap.size X X1 := by rw [← hX1]; exact (Below.refl _ X).alloc (Nat.le_refl _) _
            have rX1 : X1.heap[X.heap.size]? = some (.cells #[.slice o0 m0 m0, .slice o1 m1 m1] 28 (0, 0)) := by rw [← hX1]; exact heap_alloc_new _ _
            have hX' := hX.below bX1
            have hP1 := HG.out.1.bw hX'.bel
            have C22 : Hid _ := dCount hP1
            have C19 : Hid _ := dAt hP1 HG.out.2.1 HBL.out HG.out.2.2.1 (os.length : Int) 0 0 (by omega) (by omega)
            rw [HG.out.2.2.2.1, HG.out.2.2.2.2.1, HG.out.2.2.2.2.2.1] at C19
            rw [HG.out.2.2.2.2.2.2.2.2.2.2.2.2] at C22 C19
            have HX1 : Hid (X.alloc (.cells #[.slice o0 m0 m0, .slice o1 m1 m1] 28) = X1 ∧ HoP wr p q o0 o1 X1 ∧ X1.heap[X.heap.size]? = some (.cells #[.slice o0 m0 m0, .slice o1 m1 m1] 28 (0, 0))) := ⟨hX1, hX', rX1⟩
            clear hX hX1 bX1 rX1 hX' hP1
            go_wp2_with fail
            rw [HX1.out.1]
            refine Calls.mono C22.out ?_
            rintro e w9 ⟨rfl, hw⟩
            have hw2 := hw.symm
            subst hw2
            clear C22
            go_wp2_with fail
            refine Calls.mono C19.out ?_
            rintro e Y ⟨c, rfl, a, b, rfl, ha, hb, bY⟩
            clear C19
            obtain ⟨oy, cy, e1, -⟩ := id ha
            obtain ⟨oz, cz, e2, -⟩ := id hb
            rw [HG.out.2.2.2.2.2.2.1] at e1
            rw [HG.out.2.2.2.2.2.2.2.1] at e2
            subst e1 e2
            obtain ⟨Y1, hY1⟩ : ∃ Y1, Y.alloc (.cells #[.slice oy m0 cy, .slice oz m1 cz] 28) = Y1 := ⟨_, rfl⟩
            have bY1 : Below Y.heap.size Y Y1 := by rw [← hY1]; exact (Below.refl _ Y).alloc (Nat.le_refl _) _
            have rY1 : Y1.heap[Y.heap.size]? = some (.cells #[.slice oy m0 cy, .slice oz m1 cz] 28 (0, 0)) := by rw [← hY1]; exact heap_alloc_new _ _
            have bXY := bY.trans (bY1.mono bY.size)
            have hoY := HX1.out.2.1.below bXY
            have rX := (bXY.block _ (Array.getElem?_eq_some_iff.1 HX1.out.2.2).1).trans HX1.out.2.2
            have hb0 := hoY.b0
            have hb1 := hoY.b1
            rw [HG.out.2.2.2.2.2.2.1] at hb0
            rw [HG.out.2.2.2.2.2.2.2.1] at hb1
            have C14 : Hid _ := same_eq hb0 hb1 (ha.below bY1) (hb.below bY1)
            have ldx := ld_Drow Y1 X.heap.size _ rfl rX
            have ldy := ld_Drow Y1 Y.heap.size _ rfl rY1
            rw [← hY1] at ldx ldy
            have HY1 : Hid (Y.alloc (.cells #[.slice oy m0 cy, .slice oz m1 cz] 28) = Y1 ∧ HoP wr p q o0 o1 Y1) := ⟨hY1, hoY⟩
            clear hY1 bY1 rY1 bXY hoY rX hb0 hb1 ha hb bY
            go_wp2_with fail
            rw [HY1.out.1]
            refine Calls.mono C14.out ?_
            rintro e Z ⟨rfl, hZ⟩
            clear C14 ldx ldy
            have hPZ := HG.out.1.bw (HY1.out.2.below hZ).bel
            have C10 : Hid _ := cDisk hPZ HG.out.2.2.1
            rw [HG.out.2.2.2.2.2.2.2.2.1, HG.out.2.2.2.2.2.2.2.2.2.1, HG.out.2.2.2.2.2.2.2.2.2.2.1, HG.out.2.2.2.2.2.2.2.2.2.2.2.1] at C10
            have HPZ : Hid _ := hPZ
            clear hZ hPZ
            go_wp2_with fail
            refine Calls.mono C10.out ?_
            rintro e Z1 ⟨i0, i1, rfl, hZ1⟩
            clear C10
            have hP1 := HPZ.out.bw hZ1.bel
            have C21 : Hid _ := dDisk hP1
            rw [HG.out.2.2.2.2.2.2.2.2.1, HG.out.2.2.2.2.2.2.2.2.2.1] at C21
            have HZ1 : Hid _ := hZ1
            have HP1 : Hid _ := hP1
            clear hZ1 hP1
            go_wp2_with fail
            refine Calls.mono C21.out ?_
            rintro e Z2 ⟨c, rfl, a, b, rfl, ha, hb, bZ2⟩
            clear C21
            obtain ⟨oy', cy', e1, -⟩ := id ha
            obtain ⟨oz', cz', e2, -⟩ := id hb
            rw [HG.out.2.2.2.2.2.2.2.2.2.2.1] at e1
            rw [HG.out.2.2.2.2.2.2.2.2.2.2.2.1] at e2
            subst e1 e2
            have hb0 := (HZ1.out.below bZ2).b0
            have hb1 := (HZ1.out.below bZ2).b1
            rw [HG.out.2.2.2.2.2.2.2.2.2.2.1] at hb0
            rw [HG.out.2.2.2.2.2.2.2.2.2.2.2.1] at hb1
            have C14 : Hid _ := same_eq hb0 hb1 ha hb
            have HP2 : Hid _ := HP1.out.bw bZ2
            clear hb0 hb1 ha hb bZ2
            go_wp2_with fail
            refine Calls.mono C14.out ?_
            rintro e Z3 ⟨rfl, hZ3⟩
            have HP3 : Hid _ := HP2.out.bw hZ3
            clear C14 hZ3
            go_wp2_with fail
            go_ret
            exact ⟨rfl, HP3.out.qb⟩
end
end Go.Proofs.Ytdiflmckjpmngaa
