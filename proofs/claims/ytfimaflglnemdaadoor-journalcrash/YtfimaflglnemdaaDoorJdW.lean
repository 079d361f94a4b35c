/- The journal's device: At, whole. -/
import Derived.Test.YtfimaflglnemdaaDoorJdV
import Derived.Test.YtfimaflglnemdaaDoorJqK
namespace Go.Proofs.YtfimaflglnemdaaDoor.Dev
open Go.RowKit
set_option maxRecDepth 20000
/-- The region's worlds. -/
structure Rg9 (A : World) (mb : Nat) (R : World → Prop) (l : Array Bool) (Y : World) : Prop where
  rows : ∀ j, j < A.heap.size → j ≠ mb → Y.heap[j]? = A.heap[j]?
  ord : l.getD 16 true = true → l.getD 14 true = true
  free : l.getD 16 true = false → Below A.heap.size A Y
  full : l.getD 16 true = true → R Y
theorem Rg9.mv {A Y : World} {mb : Nat} {R : World → Prop} {l : Array Bool} (h : Rg9 A mb R l Y) (i : Nat) (hi : i < 16) : Rg9 A mb R (l.setIfInBounds i true) Y := by
  have e := gd_ne l i 16 (by omega)
  refine ⟨h.rows, fun h1 => ?_, fun h1 => h.free (e.symm.trans h1), fun h1 => h.full (e.symm.trans h1)⟩
  by_cases h14 : i = 14
  · subst h14; exact gd_eq l 14
  · rw [gd_ne l i 14 h14]; exact h.ord (e.symm.trans h1)
theorem Rg9.c14 {A Y : World} {mb : Nat} {R : World → Prop} {l : Array Bool} (h : Rg9 A mb R l Y) (hu : l.getD 14 true = false) : l.getD 16 true = false := by
  cases hq : l.getD 16 true with
  | false => rfl
  | true => have := h.ord hq; rw [hu] at this; cases this
theorem Rg9.called {A Y Z : World} {mb : Nat} {R : World → Prop} {l : Array Bool} (h : Rg9 A mb R l Y) (hu : l.getD 14 true = false) (hb : Below A.heap.size A Z) : Rg9 A mb R (l.setIfInBounds 14 true) Z := by
  have e := gd_ne l 14 16 (by omega)
  refine ⟨fun j hj _ => hb.block j hj, fun _ => gd_eq l 14, fun _ => hb, fun h1 => ?_⟩
  rw [e, h.c14 hu] at h1
  cases h1
theorem Rg9.put {A Y : World} {mb : Nat} {R : World → Prop} {l : Array Bool} (h : Rg9 A mb R l Y) (h14 : l.getD 14 true = true) {C : Array Value} (hr : R (Y.setRow mb C)) : Rg9 A mb R (l.setIfInBounds 16 true) (Y.setRow mb C) := by
  refine ⟨fun j hj hn => (setRow_other _ _ _ _ hn).trans (h.rows j hj hn), fun _ => by rw [gd_ne l 16 14 (by omega)]; exact h14, fun h1 => ?_, fun _ => hr⟩
  rw [gd_eq] at h1
  cases h1
theorem Rg9.start (A : World) (mb : Nat) (R : World → Prop) {Y : World} (hb : Below A.heap.size A Y) : Rg9 A mb R (Array.replicate reg9.size false) Y := by
  have e : reg9.size = 17 := by kernel_rfl
  have f : (Array.replicate reg9.size false).getD 16 true = false := by rw [e]; rfl
  refine ⟨fun j hj _ => hb.block j hj, fun h => ?_, fun _ => hb, fun h => ?_⟩
  · rw [f] at h; cases h
  · rw [f] at h; cases h
theorem Rg9.done {A Y : World} {mb : Nat} {R : World → Prop} (h : Rg9 A mb R (Array.replicate reg9.size true) Y) : R Y := by
  have e : reg9.size = 17 := by kernel_rfl
  refine h.full ?_
  rw [e]
  rfl
section
attribute [local go_sem ↓] toStC toLdM toStD
set_option maxRecDepth 100000 in
set_option maxHeartbeats 3200000 in
theorem At_good [Inhabited HoleT] {lo v : Nat} {W : World} {lv : Value} {f : Array Value} {ms : List (Array Value)} {sp : List Sp} (h : Dv lo W v lv f ms sp) (k : Nat) (x : Sp) (hx : sp[k]? = some x) (hbig : ms.length < 9223372036854775807) (k0 k1 : Nat) (hk0 : k0 < 9223372036854775808) (hk1 : k1 < 9223372036854775808) : Calls Tryd.prog 25 #[.pointer (some ⟨v, 0, none⟩), .int .i64 (k : Int), .agg #[.int .i64 (k0 : Int), .int .i64 (k1 : Int)]] W fun e w' => ∃ c, e = .returned (.tuple #[.agg c, .int .i64 0]) ∧ DkP W (cutP x.1 k0, cutP x.2 k1) c w' := by
  obtain ⟨W2, hW2⟩ : ∃ W2, (W.alloc (.cells #[.int .i64 (k0 : Int), .int .i64 (k1 : Int)] 34)).alloc (.cells zD 26) = W2 := ⟨_, rfl⟩
  have bW : Below W.heap.size W W2 := by rw [← hW2]; exact below2 _ _ _
  have r0 : W2.heap[W.heap.size]? = some (.cells #[.int .i64 (k0 : Int), .int .i64 (k1 : Int)] 34 (0, 0)) := by rw [← hW2]; exact row2 _ _ _
  have r1 : W2.heap[W.heap.size + 1]? = some (.cells zD 26 (0, 0)) := by rw [← hW2]; exact row2n _ _ _
  have h2 := h.below bW
  have hkl : k ≤ ms.length := by have := (List.getElem?_eq_some_iff.1 hx).1; have := h.len; omega
  have C1 : Hid _ := count_any h2
  have C2 : Hid _ := at_any h2 k x hx (by omega)
  obtain ⟨Q, hQd⟩ : ∃ Q, Qd lo W2 v lv = Q := ⟨_, rfl⟩
  have hMoW : ∃ m, Mo (Qd lo W v lv) W m x := by
    obtain ⟨m, hm⟩ : ∃ m, (f :: ms)[k]? = some m := ⟨_, List.getElem?_eq_getElem (by rw [List.length_cons]; omega)⟩
    exact ⟨m, h.each k m x hm hx⟩
  have hlt : ((k : Int) < 0) = False := by simp
  have hgt : ¬ ((ms.length : Int) < (k : Int)) := by omega
  have g0 : ¬ ((k : Int) < 0) := by omega
  have g1 : ¬ ((k0 : Int) < 0) := by omega
  have g2 : ¬ ((k1 : Int) < 0) := by omega
  have a0 : W2.cell? ⟨W.heap.size, 0, none⟩ = some (.int .i64 (k0 : Int)) := by rw [cell_of_row _ _ _ _ _ _ r0]; rfl
  have a1 : W2.cell? ⟨W.heap.size, 1, none⟩ = some (.int .i64 (k1 : Int)) := by rw [cell_of_row _ _ _ _ _ _ r0]; rfl
  have HW : Hid ((W.alloc (.cells #[.int .i64 (k0 : Int), .int .i64 (k1 : Int)] 34)).alloc (.cells #[.slice none 0 0, .slice none 0 0] 26) = W2) := hW2
  have HR0 : Hid (Below W.heap.size W W2 ∧ W2.heap[W.heap.size]? = some (.cells #[.int .i64 (k0 : Int), .int .i64 (k1 : Int)] 34 (0, 0)) ∧ W2.heap[W.heap.size + 1]? = some (.cells zD 26 (0, 0)) ∧ k0 < 9223372036854775808 ∧ k1 < 9223372036854775808) := ⟨bW, r0, r1, hk0, hk1⟩
  have HMoW : Hid _ := hMoW
  clear hW2 bW r0 r1 h2 h hx hbig hkl hMoW hk0 hk1 hlt hQd Q
  go_enter Tryd.func25, Tryd.ntmps25
  go_wp2_with fail
  rw [HW.out]
  refine Calls.mono C1.out ?_
  rintro e w' ⟨rfl, hw⟩
  have hw2 := hw.symm
  subst hw2
  go_wp2_with fail
  refine Calls.mono C2.out ?_
  rintro e X ⟨m, rfl, hm, hX⟩
  obtain ⟨p0, p1, rfl, hc0, hc1⟩ := id hm
  obtain ⟨n0, hn0⟩ : ∃ n, x.1.1.length = n := ⟨_, rfl⟩
  obtain ⟨n1, hn1⟩ : ∃ n, x.2.1.length = n := ⟨_, rfl⟩
  obtain ⟨s0, hs0⟩ : ∃ n, x.1.2 = n := ⟨_, rfl⟩
  obtain ⟨s1, hs1⟩ : ∃ n, x.2.2 = n := ⟨_, rfl⟩
  obtain ⟨Q, hQd⟩ : ∃ Q, Qd lo W2 v lv = Q := ⟨_, rfl⟩
  have HQ : Hid (∀ j, Q j → j < X.heap.size) := fun j hj => by rw [← hQd] at hj; exact Nat.lt_of_lt_of_le hj.2.1 hX.size
  rw [hQd] at hm hc0 hc1
  have hz1 : W.heap.size + 1 < W2.heap.size := (Array.getElem?_eq_some_iff.1 HR0.out.2.2.1).1
  have HMB : Hid (W.heap.size + 2 ≤ X.heap.size) := by have := hX.size; show _ ≤ _; omega
  obtain ⟨-, -, -, hl0, hm0⟩ := hc0
  obtain ⟨-, -, -, hl1, hm1⟩ := hc1
  rw [hn0, hs0] at hl0
  rw [hn1, hs1] at hl1
  rw [hn0] at hm0
  rw [hn1] at hm1
  obtain ⟨L0, hL0⟩ : ∃ L, n0 - s0 = L := ⟨_, rfl⟩
  obtain ⟨L1, hL1⟩ : ∃ L, n1 - s1 = L := ⟨_, rfl⟩
  obtain ⟨M0, hM0⟩ : ∃ L, min k0 L0 = L := ⟨_, rfl⟩
  obtain ⟨M1, hM1⟩ : ∃ L, min k1 L1 = L := ⟨_, rfl⟩
  obtain ⟨N0, hN0⟩ : ∃ L, s0 + M0 = L := ⟨_, rfl⟩
  obtain ⟨N1, hN1⟩ : ∃ L, s1 + M1 = L := ⟨_, rfl⟩
  have HKN : Hid (keepN x.1 k0 = N0 ∧ keepN x.2 k1 = N1) := by
    unfold keepN
    rw [hn0, hn1, hs0, hs1]
    exact ⟨by omega, by omega⟩
  have HNN : Hid (N0 ≤ x.1.1.length ∧ N1 ≤ x.2.1.length) := by rw [hn0, hn1]; exact ⟨by omega, by omega⟩
  have w0 : IntKind.i64.wrap ((n0 : Int) - (s0 : Int)) = (L0 : Int) := by rw [IntKind.wrap_i64]; unfold LIM at hm0; omega
  have w1 : IntKind.i64.wrap ((n1 : Int) - (s1 : Int)) = (L1 : Int) := by rw [IntKind.wrap_i64]; unfold LIM at hm1; omega
  have w2 : (if L0 < k0 then (L0 : Int) else (k0 : Int)) = (M0 : Int) := by split <;> omega
  have w3 : (if L1 < k1 then (L1 : Int) else (k1 : Int)) = (M1 : Int) := by split <;> omega
  have w4 : IntKind.i64.wrap ((s0 : Int) + (M0 : Int)) = (N0 : Int) := by rw [IntKind.wrap_i64]; unfold LIM at hm0; omega
  have w5 : IntKind.i64.wrap ((s1 : Int) + (M1 : Int)) = (N1 : Int) := by rw [IntKind.wrap_i64]; unfold LIM at hm1; omega
  have bX : Below W.heap.size W X := HR0.out.1.trans (hX.mono HR0.out.1.size)
  have HS : Hid (AtR Q W X.heap.size k0 k1 (momA p0 n0 s0 p1 n1 s1) x x (X.alloc (.cells (momA p0 n0 s0 p1 n1 s1) 90))) := by
    rw [hn0, hn1, hs0, hs1] at hm
    have hm2 : Mo Q (X.alloc (.cells (momA p0 n0 s0 p1 n1 s1) 90)) (momA p0 n0 s0 p1 n1 s1) x := hm.keep (fun j hj => heap_alloc_old X _ (h := HQ.out j hj)) (fun _ h => h)
    exact ⟨bX.alloc bX.size _, (heap_alloc_old X _ (h := by have := hX.size; omega)).trans ((hX.block _ (by omega)).trans HR0.out.2.1), (heap_alloc_old X _ (h := by have := hX.size; omega)).trans ((hX.block _ (by omega)).trans HR0.out.2.2.1), ⟨_, heap_alloc_new _ _, hm2⟩, hm2⟩
  have ld6 := ld_Mrow (X.alloc (.cells (momA p0 n0 s0 p1 n1 s1) 90)) X.heap.size _ rfl (heap_alloc_new _ _)
  have HN : Hid (x.1.1.length = n0 ∧ x.2.1.length = n1 ∧ x.1.2 = s0 ∧ x.2.2 = s1) := ⟨hn0, hn1, hs0, hs1⟩
  rw [hn0, hn1, hs0, hs1]
  clear hm hn0 hn1 hs0 hs1 hQd hz1 hl0 hl1 hm0 hm1 hL0 hL1 hM0 hM1 hN0 hN1 bX hX C1 C2 a0 a1 HMoW
  have hx0 := fun w => ix_M0 w p0 p1 n0 s0 n1 s1
  have hx1 := fun w => ix_M1 w p0 p1 n0 s0 n1 s1
  unfold momA at *
  go_wp2_with fail
  clear ld6
  go_loopw [39] (fun iv wr => (iv = .int .i64 0 ∧ Hid (AtR Q W X.heap.size k0 k1 #[.pointer p0, .int .i64 (n0 : Int), .int .i64 (s0 : Int), .pointer p1, .int .i64 (n1 : Int), .int .i64 (s1 : Int)] x x wr)) ∨ (iv = .int .i64 1 ∧ Hid (AtR Q W X.heap.size k0 k1 #[.pointer p0, .int .i64 (n0 : Int), .int .i64 (s0 : Int), .pointer p1, .int .i64 (n1 : Int), .int .i64 (s1 : Int)] x (cutP x.1 k0, x.2) wr)) ∨ (iv = .int .i64 2 ∧ Hid (AtR Q W X.heap.size k0 k1 #[.pointer p0, .int .i64 (n0 : Int), .int .i64 (s0 : Int), .pointer p1, .int .i64 (n1 : Int), .int .i64 (s1 : Int)] x (cutP x.1 k0, cutP x.2 k1) wr))) (fun iv _ => 2 - (intOf iv).toNat)
  case atStart => exact .inl ⟨rfl, HS⟩
  case round =>
    rcases hrel with ⟨rfl, HR⟩ | ⟨rfl, HR⟩ | ⟨rfl, HR⟩
    · have hmw : X.heap.size < wr.heap.size := by obtain ⟨_, h, _⟩ := HR.out.row; exact (Array.getElem?_eq_some_iff.1 h).1
      obtain ⟨hcn0, hcn1⟩ := mo_cn HR.out.orig
      obtain ⟨pq, hpq, hch, hsl, hlm⟩ := hcn0
      obtain rfl : p0 = pq := (cn_inj hpq).1
      obtain ⟨q0, hsk, hchq⟩ := hch.skp HNN.out.1
      obtain ⟨t0, ht0⟩ : ∃ t, min s0 N0 = t := ⟨_, rfl⟩
      have hlen := HN.out.1
      have hsaf := HN.out.2.2.1
      have hst := stc_new wr p0 n0 s0
      obtain ⟨A, hA⟩ : ∃ A, wr.alloc (.cells #[.pointer p0, .int .i64 (n0 : Int), .int .i64 (s0 : Int)] 88) = A := ⟨_, rfl⟩
      have hzA : A.heap.size = wr.heap.size + 1 := by rw [← hA]; simp
      have hAo : ∀ j, j < wr.heap.size → A.heap[j]? = wr.heap[j]? := fun j hj => by rw [← hA]; exact heap_alloc_old _ _ (h := hj)
      have hAc : A.heap[wr.heap.size]? = some (.cells #[.pointer p0, .int .i64 (n0 : Int), .int .i64 (s0 : Int)] 88 (0, 0)) := by rw [← hA]; exact heap_alloc_new _ _
      have hcall : ∀ Y, Below A.heap.size A Y → Calls Tryd.prog 54 #[.agg #[.pointer p0, .int .i64 (n0 : Int), .int .i64 (s0 : Int)], .int .i64 (N0 : Int)] Y fun e w' => e = .returned (.agg #[.pointer q0, .int .i64 (N0 : Int), .int .i64 (t0 : Int)]) ∧ Below A.heap.size A w' := fun Y hY => by
        have kp : ∀ j, Q j → Y.heap[j]? = wr.heap[j]? := fun j hj => (hY.block j (by have := HQ.out j hj; omega)).trans (hAo j (by have := HQ.out j hj; omega))
        have := cut_det Q p0 q0 x.1.1 x.1.2 N0 Y (hch.keep kp (fun _ h => h)) (hsk.keep kp) hsl hlm HNN.out.1
        rw [hlen, hsaf, ht0] at this
        exact this.mono fun e w' ⟨h1, h2⟩ => ⟨h1, hY.trans (h2.mono hY.size)⟩
      have hput : ∀ Y, Below A.heap.size A Y → ∃ RR, (Instr.storeAt 88 (.pointer (some ⟨X.heap.size, 0, none⟩)) (.agg #[.pointer q0, .int .i64 (N0 : Int), .int .i64 (t0 : Int)])).run Tryd.prog Y = .ok () (Y.setRow X.heap.size RR) ∧ AtR Q W X.heap.size k0 k1 #[.pointer p0, .int .i64 (n0 : Int), .int .i64 (s0 : Int), .pointer p1, .int .i64 (n1 : Int), .int .i64 (s1 : Int)] x (cutP x.1 k0, x.2) (Y.setRow X.heap.size RR) := fun Y hY => by
        have kp : ∀ j, Q j → Y.heap[j]? = wr.heap[j]? := fun j hj => (hY.block j (by have := HQ.out j hj; omega)).trans (hAo j (by have := HQ.out j hj; omega))
        have hl2 : (x.1.1.take N0).length = N0 := by rw [List.length_take]; have := HNN.out.1; omega
        have hc' : Cn Q Y #[.pointer q0, .int .i64 (N0 : Int), .int .i64 (t0 : Int)] (cutP x.1 k0).1 (cutP x.1 k0).2 := by
          rw [cut_eq HKN.out.1]
          refine ⟨q0, by show _ = cnA q0 (x.1.1.take N0).length (min x.1.2 N0); rw [hl2, hsaf, ht0]; rfl, hchq.keep kp (fun _ h => h), by show min x.1.2 N0 ≤ (x.1.1.take N0).length; rw [hl2]; omega, by show (x.1.1.take N0).length ≤ LIM; rw [hl2]; have := HNN.out.1; omega⟩
        rw [← hA] at hY
        obtain ⟨pc, nc, sc, RR, hce, hst2, hnext⟩ := HR.out.next0 HQ.out HMB.out (.cells #[.pointer p0, .int .i64 (n0 : Int), .int .i64 (s0 : Int)] 88) (X := Y) ⟨hY.os, hY.tape, hY.output, hY.size, hY.block⟩ hc'
        rw [← hce] at hst2
        exact ⟨RR, hst2, hnext⟩
      have HB9 : Hid ((∀ Y, Below A.heap.size A Y → Calls Tryd.prog 54 #[.agg #[.pointer p0, .int .i64 (n0 : Int), .int .i64 (s0 : Int)], .int .i64 (N0 : Int)] Y fun e w' => e = .returned (.agg #[.pointer q0, .int .i64 (N0 : Int), .int .i64 (t0 : Int)]) ∧ Below A.heap.size A w') ∧ (∀ Y, Below A.heap.size A Y → ∃ RR, (Instr.storeAt 88 (.pointer (some ⟨X.heap.size, 0, none⟩)) (.agg #[.pointer q0, .int .i64 (N0 : Int), .int .i64 (t0 : Int)])).run Tryd.prog Y = .ok () (Y.setRow X.heap.size RR) ∧ AtR Q W X.heap.size k0 k1 #[.pointer p0, .int .i64 (n0 : Int), .int .i64 (s0 : Int), .pointer p1, .int .i64 (n1 : Int), .int .i64 (s1 : Int)] x (cutP x.1 k0, x.2) (Y.setRow X.heap.size RR))) := ⟨hcall, hput⟩
      have hkr : A.heap[W.heap.size]? = some (.cells #[.int .i64 (k0 : Int), .int .i64 (k1 : Int)] 34 (0, 0)) := (hAo _ (by have := HMB.out; omega)).trans HR.out.keep
      have HA9 : Hid (A.heap[wr.heap.size]? = some (.cells #[.pointer p0, .int .i64 (n0 : Int), .int .i64 (s0 : Int)] 88 (0, 0)) ∧ A.heap[W.heap.size]? = some (.cells #[.int .i64 (k0 : Int), .int .i64 (k1 : Int)] 34 (0, 0)) ∧ W.heap.size ≠ X.heap.size ∧ wr.heap.size ≠ X.heap.size ∧ wr.alloc (.cells #[.pointer p0, .int .i64 (n0 : Int), .int .i64 (s0 : Int)] 88) = A) := ⟨hAc, hkr, by have := HMB.out; omega, by omega, hA⟩
      have HWW : Hid ((IntKind.i64.wrap ((n0 : Int) - (s0 : Int)) = (L0 : Int)) ∧ ((if L0 < k0 then (L0 : Int) else (k0 : Int)) = (M0 : Int)) ∧ IntKind.i64.wrap ((s0 : Int) + (M0 : Int)) = (N0 : Int)) := ⟨w0, w2, w4⟩
      clear hmw hcn1 hpq hch hsl hlm hsk hchq ht0 hlen hsaf hzA hAo hAc hcall hput hkr hA
      go_wp2_with fail
      rw [HA9.out.2.2.2.2]
      refine wp_region_vals (ops := reg9) (V := V90 wr.heap.size W.heap.size X.heap.size n0 s0 k0 L0 M0 N0 t0 p0 q0) (S := Rg9 A X.heap.size (AtR Q W X.heap.size k0 k1 #[.pointer p0, .int .i64 (n0 : Int), .int .i64 (s0 : Int), .pointer p1, .int .i64 (n1 : Int), .int .i64 (s1 : Int)] x (cutP x.1 k0, x.2))) (by kernel_rfl) (fun i o ho => (okR_at okR9 ho).1) (fun i j o oj d ho hj q1 q2 => (okR_at okR9 ho).2.2 j oj d hj q1 q2) (fun i o d ho q => (okR_at okR9 ho).2.1 d q)
        (step90 _ wr.heap.size W.heap.size X.heap.size n0 s0 k0 L0 M0 N0 t0 p0 q0 _ _ rfl rfl rfl rfl (fun i hi l Y h => h.mv i (of_decide_eq_true hi))
          (fun l Y h _ hu _ => (HB9.out.1 Y (h.free (h.c14 hu))).mono fun e w' ⟨h1, h2⟩ => ⟨h1, h.called hu h2⟩)
          (fun l Y h _ _ _ => ⟨Y, ld_Crow Y _ _ rfl ((h.rows _ (Array.getElem?_eq_some_iff.1 HA9.out.1).1 HA9.out.2.2.2.1).trans HA9.out.1), h.mv 1 (by omega)⟩)
          (fun l Y h _ _ _ => ⟨Y, ld3 Y (by rw [cell_of_row _ _ _ _ _ _ ((h.rows _ (Array.getElem?_eq_some_iff.1 HA9.out.1).1 HA9.out.2.2.2.1).trans HA9.out.1)]; rfl), h.mv 3 (by omega)⟩)
          (fun l Y h _ _ _ => ⟨Y, ld3 Y (by rw [cell_of_row _ _ _ _ _ _ ((h.rows _ (Array.getElem?_eq_some_iff.1 HA9.out.2.1).1 HA9.out.2.2.1).trans HA9.out.2.1)]; rfl), h.mv 6 (by omega)⟩)
          (fun l Y h _ _ _ => ⟨Y, ld3 Y (by rw [cell_of_row _ _ _ _ _ _ ((h.rows _ (Array.getElem?_eq_some_iff.1 HA9.out.1).1 HA9.out.2.2.2.1).trans HA9.out.1)]; rfl), h.mv 8 (by omega)⟩)
          (fun l Y h _ _ _ => ⟨Y, ld3 Y (by rw [cell_of_row _ _ _ _ _ _ ((h.rows _ (Array.getElem?_eq_some_iff.1 HA9.out.1).1 HA9.out.2.2.2.1).trans HA9.out.1)]; rfl), h.mv 10 (by omega)⟩)
          (fun l Y h _ hu hd => by
            obtain ⟨RR, h1, h2⟩ := HB9.out.2 Y (h.free hu)
            exact ⟨_, h1, h.put (gd_true (hd 14 (by kernel_rfl))) h2⟩)
          HWW.out.1 HWW.out.2.1 HWW.out.2.2) (Rg9.start A _ _ ⟨rfl, rfl, rfl, Nat.le_refl _, fun _ _ => rfl⟩) (fun wE hE => ?_)
      rw [put9]
      have HR2 : Hid _ := hE.done
      clear hE
      simp only [V90]
      go_wp2_with fail
      go_roundw
      case rel => exact .inr (.inl ⟨by go_num, HR2⟩)
      case measure => simp [intOf]
    · have hmw : X.heap.size < wr.heap.size := by obtain ⟨_, h, _⟩ := HR.out.row; exact (Array.getElem?_eq_some_iff.1 h).1
      obtain ⟨hcn0, hcn1⟩ := mo_cn HR.out.orig
      obtain ⟨pq, hpq, hch, hsl, hlm⟩ := hcn1
      obtain rfl : p1 = pq := (cn_inj hpq).1
      obtain ⟨q0, hsk, hchq⟩ := hch.skp HNN.out.2
      obtain ⟨t0, ht0⟩ : ∃ t, min s1 N1 = t := ⟨_, rfl⟩
      have hlen := HN.out.2.1
      have hsaf := HN.out.2.2.2
      have hst := stc_new wr p1 n1 s1
      obtain ⟨A, hA⟩ : ∃ A, wr.alloc (.cells #[.pointer p1, .int .i64 (n1 : Int), .int .i64 (s1 : Int)] 88) = A := ⟨_, rfl⟩
      have hzA : A.heap.size = wr.heap.size + 1 := by rw [← hA]; simp
      have hAo : ∀ j, j < wr.heap.size → A.heap[j]? = wr.heap[j]? := fun j hj => by rw [← hA]; exact heap_alloc_old _ _ (h := hj)
      have hAc : A.heap[wr.heap.size]? = some (.cells #[.pointer p1, .int .i64 (n1 : Int), .int .i64 (s1 : Int)] 88 (0, 0)) := by rw [← hA]; exact heap_alloc_new _ _
      have hcall : ∀ Y, Below A.heap.size A Y → Calls Tryd.prog 54 #[.agg #[.pointer p1, .int .i64 (n1 : Int), .int .i64 (s1 : Int)], .int .i64 (N1 : Int)] Y fun e w' => e = .returned (.agg #[.pointer q0, .int .i64 (N1 : Int), .int .i64 (t0 : Int)]) ∧ Below A.heap.size A w' := fun Y hY => by
        have kp : ∀ j, Q j → Y.heap[j]? = wr.heap[j]? := fun j hj => (hY.block j (by have := HQ.out j hj; omega)).trans (hAo j (by have := HQ.out j hj; omega))
        have := cut_det Q p1 q0 x.2.1 x.2.2 N1 Y (hch.keep kp (fun _ h => h)) (hsk.keep kp) hsl hlm HNN.out.2
        rw [hlen, hsaf, ht0] at this
        exact this.mono fun e w' ⟨h1, h2⟩ => ⟨h1, hY.trans (h2.mono hY.size)⟩
      have hput : ∀ Y, Below A.heap.size A Y → ∃ RR, (Instr.storeAt 88 (.pointer (some ⟨X.heap.size, 3, none⟩)) (.agg #[.pointer q0, .int .i64 (N1 : Int), .int .i64 (t0 : Int)])).run Tryd.prog Y = .ok () (Y.setRow X.heap.size RR) ∧ AtR Q W X.heap.size k0 k1 #[.pointer p0, .int .i64 (n0 : Int), .int .i64 (s0 : Int), .pointer p1, .int .i64 (n1 : Int), .int .i64 (s1 : Int)] x (cutP x.1 k0, cutP x.2 k1) (Y.setRow X.heap.size RR) := fun Y hY => by
        have kp : ∀ j, Q j → Y.heap[j]? = wr.heap[j]? := fun j hj => (hY.block j (by have := HQ.out j hj; omega)).trans (hAo j (by have := HQ.out j hj; omega))
        have hl2 : (x.2.1.take N1).length = N1 := by rw [List.length_take]; have := HNN.out.2; omega
        have hc' : Cn Q Y #[.pointer q0, .int .i64 (N1 : Int), .int .i64 (t0 : Int)] (cutP x.2 k1).1 (cutP x.2 k1).2 := by
          rw [cut_eq HKN.out.2]
          refine ⟨q0, by show _ = cnA q0 (x.2.1.take N1).length (min x.2.2 N1); rw [hl2, hsaf, ht0]; rfl, hchq.keep kp (fun _ h => h), by show min x.2.2 N1 ≤ (x.2.1.take N1).length; rw [hl2]; omega, by show (x.2.1.take N1).length ≤ LIM; rw [hl2]; have := HNN.out.2; omega⟩
        rw [← hA] at hY
        obtain ⟨pc, nc, sc, RR, hce, hst2, hnext⟩ := HR.out.next1 HQ.out HMB.out (.cells #[.pointer p1, .int .i64 (n1 : Int), .int .i64 (s1 : Int)] 88) (X := Y) ⟨hY.os, hY.tape, hY.output, hY.size, hY.block⟩ hc'
        rw [← hce] at hst2
        exact ⟨RR, hst2, hnext⟩
      have HB9 : Hid ((∀ Y, Below A.heap.size A Y → Calls Tryd.prog 54 #[.agg #[.pointer p1, .int .i64 (n1 : Int), .int .i64 (s1 : Int)], .int .i64 (N1 : Int)] Y fun e w' => e = .returned (.agg #[.pointer q0, .int .i64 (N1 : Int), .int .i64 (t0 : Int)]) ∧ Below A.heap.size A w') ∧ (∀ Y, Below A.heap.size A Y → ∃ RR, (Instr.storeAt 88 (.pointer (some ⟨X.heap.size, 3, none⟩)) (.agg #[.pointer q0, .int .i64 (N1 : Int), .int .i64 (t0 : Int)])).run Tryd.prog Y = .ok () (Y.setRow X.heap.size RR) ∧ AtR Q W X.heap.size k0 k1 #[.pointer p0, .int .i64 (n0 : Int), .int .i64 (s0 : Int), .pointer p1, .int .i64 (n1 : Int), .int .i64 (s1 : Int)] x (cutP x.1 k0, cutP x.2 k1) (Y.setRow X.heap.size RR))) := ⟨hcall, hput⟩
      have hkr : A.heap[W.heap.size]? = some (.cells #[.int .i64 (k0 : Int), .int .i64 (k1 : Int)] 34 (0, 0)) := (hAo _ (by have := HMB.out; omega)).trans HR.out.keep
      have HA9 : Hid (A.heap[wr.heap.size]? = some (.cells #[.pointer p1, .int .i64 (n1 : Int), .int .i64 (s1 : Int)] 88 (0, 0)) ∧ A.heap[W.heap.size]? = some (.cells #[.int .i64 (k0 : Int), .int .i64 (k1 : Int)] 34 (0, 0)) ∧ W.heap.size ≠ X.heap.size ∧ wr.heap.size ≠ X.heap.size ∧ wr.alloc (.cells #[.pointer p1, .int .i64 (n1 : Int), .int .i64 (s1 : Int)] 88) = A) := ⟨hAc, hkr, by have := HMB.out; omega, by omega, hA⟩
      have HWW : Hid ((IntKind.i64.wrap ((n1 : Int) - (s1 : Int)) = (L1 : Int)) ∧ ((if L1 < k1 then (L1 : Int) else (k1 : Int)) = (M1 : Int)) ∧ IntKind.i64.wrap ((s1 : Int) + (M1 : Int)) = (N1 : Int)) := ⟨w1, w3, w5⟩
      clear hmw hcn0 hpq hch hsl hlm hsk hchq ht0 hlen hsaf hzA hAo hAc hcall hput hkr hA
      go_wp2_with fail
      rw [HA9.out.2.2.2.2]
      refine wp_region_vals (ops := reg9) (V := V91 wr.heap.size W.heap.size X.heap.size n1 s1 k1 L1 M1 N1 t0 p1 q0) (S := Rg9 A X.heap.size (AtR Q W X.heap.size k0 k1 #[.pointer p0, .int .i64 (n0 : Int), .int .i64 (s0 : Int), .pointer p1, .int .i64 (n1 : Int), .int .i64 (s1 : Int)] x (cutP x.1 k0, cutP x.2 k1))) (by kernel_rfl) (fun i o ho => (okR_at okR9 ho).1) (fun i j o oj d ho hj q1 q2 => (okR_at okR9 ho).2.2 j oj d hj q1 q2) (fun i o d ho q => (okR_at okR9 ho).2.1 d q)
        (step91 _ wr.heap.size W.heap.size X.heap.size n1 s1 k1 L1 M1 N1 t0 p1 q0 _ _ rfl rfl rfl rfl (fun i hi l Y h => h.mv i (of_decide_eq_true hi))
          (fun l Y h _ hu _ => (HB9.out.1 Y (h.free (h.c14 hu))).mono fun e w' ⟨h1, h2⟩ => ⟨h1, h.called hu h2⟩)
          (fun l Y h _ _ _ => ⟨Y, ld_Crow Y _ _ rfl ((h.rows _ (Array.getElem?_eq_some_iff.1 HA9.out.1).1 HA9.out.2.2.2.1).trans HA9.out.1), h.mv 1 (by omega)⟩)
          (fun l Y h _ _ _ => ⟨Y, ld3 Y (by rw [cell_of_row _ _ _ _ _ _ ((h.rows _ (Array.getElem?_eq_some_iff.1 HA9.out.1).1 HA9.out.2.2.2.1).trans HA9.out.1)]; rfl), h.mv 3 (by omega)⟩)
          (fun l Y h _ _ _ => ⟨Y, ld3 Y (by rw [cell_of_row _ _ _ _ _ _ ((h.rows _ (Array.getElem?_eq_some_iff.1 HA9.out.2.1).1 HA9.out.2.2.1).trans HA9.out.2.1)]; rfl), h.mv 6 (by omega)⟩)
          (fun l Y h _ _ _ => ⟨Y, ld3 Y (by rw [cell_of_row _ _ _ _ _ _ ((h.rows _ (Array.getElem?_eq_some_iff.1 HA9.out.1).1 HA9.out.2.2.2.1).trans HA9.out.1)]; rfl), h.mv 8 (by omega)⟩)
          (fun l Y h _ _ _ => ⟨Y, ld3 Y (by rw [cell_of_row _ _ _ _ _ _ ((h.rows _ (Array.getElem?_eq_some_iff.1 HA9.out.1).1 HA9.out.2.2.2.1).trans HA9.out.1)]; rfl), h.mv 10 (by omega)⟩)
          (fun l Y h _ hu hd => by
            obtain ⟨RR, h1, h2⟩ := HB9.out.2 Y (h.free hu)
            exact ⟨_, h1, h.put (gd_true (hd 14 (by kernel_rfl))) h2⟩)
          HWW.out.1 HWW.out.2.1 HWW.out.2.2) (Rg9.start A _ _ ⟨rfl, rfl, rfl, Nat.le_refl _, fun _ _ => rfl⟩) (fun wE hE => ?_)
      rw [put9]
      have HR2 : Hid _ := hE.done
      clear hE
      simp only [V91]
      go_wp2_with fail
      go_roundw
      case rel => exact .inr (.inr ⟨by go_num, HR2⟩)
      case measure => simp [intOf]
    · obtain ⟨m2, hr2, hm2⟩ := HR.out.row
      have ld := ld_Mrow wr X.heap.size m2 hm2.size hr2
      have C3 : Hid _ := disk_any Q m2 _ wr hm2 (fun j hj => Nat.lt_trans (HQ.out j hj) (Array.getElem?_eq_some_iff.1 hr2).1)
      have HZ : Hid (X.heap.size < wr.heap.size) := (Array.getElem?_eq_some_iff.1 hr2).1
      clear hr2 hm2
      go_wp2_with fail
      refine Calls.mono C3.out ?_
      rintro e Y ⟨c, rfl, hD⟩
      have rY : Y.heap[W.heap.size + 1]? = some (.cells zD 26 (0, 0)) := (hD.bel.block _ (by have := HZ.out; have := HMB.out; omega)).trans HR.out.res
      have st := st_D Y (W.heap.size + 1) zD c rfl hD.one.1 hD.one.2 rY
      have HF : Hid ((Y.setRow (W.heap.size + 1) c).heap[W.heap.size + 1]? = some (.cells c 26 (0, 0)) ∧ DkP W (cutP x.1 k0, cutP x.2 k1) c (Y.setRow (W.heap.size + 1) c) ∧ c.size = 2) := ⟨setRow_heap _ _ _ _ _ _ rY, (hD.sub HR.out.bel).setR _ _ (by omega) (hD.hi _ (by have := HZ.out; have := HMB.out; omega)), hD.one.1⟩
      clear hD rY C3 ld HS HR
      go_wp2_with fail
      refine bodyPost_ret (results_Dt rfl _ _ (W.heap.size + 1) _ HF.out.2.2 rfl HF.out.1) rfl ?_
      exact ⟨_, rfl, HF.out.2.1⟩
end
end Go.Proofs.YtfimaflglnemdaaDoor.Dev
