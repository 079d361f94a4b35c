/- The reference's Split of any text. -/
import Derived.Test.YtmfkhpledgnipaaDoorRefPa
namespace Go.Proofs.YtmfkhpledgnipaaDoor
open Go.RowKit
theorem ext_mid (s : ByteArray) (a b : Nat) : s.extract a b = ofL ((s.data.toList.drop a).take (b - a)) := by
  apply ByteArray.ext
  rw [ByteArray.data_extract]
  apply Array.ext'
  simp [ofL]
theorem slV_in (s : ByteArray) (f : Nat) (h : f ≤ s.size) : slV s f = f + (pre 47 (s.data.toList.drop f)).length := by
  unfold slV
  by_cases hf : s.size ≤ f
  · have h0 : s.data.toList.drop f = [] := List.drop_eq_nil_of_le (by rw [Array.length_toList]; exact hf)
    rw [if_pos hf, h0]
    simp [pre]
    omega
  · rw [if_neg hf]
attribute [local go_sem] zero25
attribute [local go_sem ↓] to25s to25l toBuild toAppS
set_option maxRecDepth 100000 in
set_option maxHeartbeats 3200000 in
theorem splitR_any (s : ByteArray) (w : World) :
    Calls Tryd.prog 22 #[.string s] w (SgPost s w) := by
  have END : Hid (∀ (W : World), W.heap[w.heap.size]? = some (.cells none25 25 (0, 0)) → W.heap[w.heap.size + 1]? = some (.cells none25 25 (0, 0)) → Below w.heap.size w W → (loadR 25 (.pointer (some ⟨w.heap.size + 1, 0, none⟩))).run Tryd.prog W = .ok (.agg none25) W ∧ (storeR 25 (.pointer (some ⟨w.heap.size, 0, none⟩)) (.agg none25)).run Tryd.prog W = .ok () (W.setRow w.heap.size none25) ∧ Hid ((W.setRow w.heap.size none25).heap[w.heap.size]? = some (.cells none25 25 (0, 0)) ∧ Below w.heap.size w (W.setRow w.heap.size none25))) := fun W hr hr1 hb =>
    ⟨run_loadR25 W (w.heap.size + 1) z20 ⟨#[]⟩ hr1 rfl, run_storeR25 W w.heap.size z20 z20 ⟨#[]⟩ ⟨#[]⟩ hr rfl rfl, setRow_heap _ _ _ _ _ _ hr, below_setRow hb (Nat.le_refl _) _⟩
  obtain ⟨W0, hW0⟩ : ∃ W0, (w.alloc (.cells #[.int .u8 0, .int .u8 0, .int .u8 0, .int .u8 0, .int .u8 0, .int .u8 0, .int .u8 0, .int .u8 0, .int .u8 0, .int .u8 0, .int .u8 0, .int .u8 0, .int .u8 0, .int .u8 0, .int .u8 0, .int .u8 0, .int .u8 0, .int .u8 0, .int .u8 0, .int .u8 0, .string ⟨#[]⟩] 25)).alloc (.cells #[.int .u8 0, .int .u8 0, .int .u8 0, .int .u8 0, .int .u8 0, .int .u8 0, .int .u8 0, .int .u8 0, .int .u8 0, .int .u8 0, .int .u8 0, .int .u8 0, .int .u8 0, .int .u8 0, .int .u8 0, .int .u8 0, .int .u8 0, .int .u8 0, .int .u8 0, .int .u8 0, .string ⟨#[]⟩] 25) = W0 := ⟨_, rfl⟩
  have H0 : Hid (Below w.heap.size w W0 ∧ W0.heap[w.heap.size]? = some (.cells none25 25 (0, 0)) ∧ W0.heap[w.heap.size + 1]? = some (.cells none25 25 (0, 0))) := by
    rw [← hW0]
    refine ⟨((Below.refl _ w).alloc (Nat.le_refl _) _).alloc (by simp) _, (heap_alloc_old _ _ (h := by simp)).trans (heap_alloc_new _ _), ?_⟩
    have := heap_alloc_new (w.alloc (.cells none25 25)) (.cells none25 25)
    rw [heap_size_alloc] at this
    exact this
  by_cases hbig : 16384 < s.size
  · have h1 : (16384 : Int) < (s.size : Int) := by omega
    obtain ⟨ld, st, HF⟩ := END.out _ H0.out.2.1 H0.out.2.2 H0.out.1
    go_enter Tryd.func22, Tryd.ntmps22
    go_wp2_with fail
    exact bodyPost_ret (results_cell4 rfl _ _ w.heap.size z20 ⟨#[]⟩ rfl rfl HF.out.1) rfl ⟨HF.out.2, by rw [if_pos hbig]; rfl⟩
  have h1 : ¬ (16384 : Int) < (s.size : Int) := by omega
  have hsL : s.data.toList.length = s.size := Array.length_toList
  obtain ⟨n, hn⟩ : ∃ n, n = endN s := ⟨_, rfl⟩
  have hnl : n ≤ s.size := by rw [hn]; exact endN_le s
  obtain ⟨A, hA⟩ : ∃ A, A = ofL (s.data.toList.take n) := ⟨_, rfl⟩
  have hx1 : s.extract 0 n = A := by rw [hA]; exact ext_take s n
  obtain ⟨q, hq⟩ : ∃ q, q = paV A := ⟨_, rfl⟩
  have hform := paV_form A
  rw [← hq] at hform
  have CL : Hid (∀ V, Calls Tryd.prog 36 #[.string s, .int .i64 13] V fun e w' => e = .returned (.int .i64 (n : Int)) ∧ w' = V) := fun V => by
    have := slash_any s (by omega) 13 V
    rw [slV_end, ← hn] at this
    exact this
  have CP : Hid (∀ V, Calls Tryd.prog 21 #[.string A] V fun e w' => e = .returned (three q) ∧ Below V.heap.size V w') := fun V => by rw [hq]; exact paR_any A V
  have PO : Hid (∀ e W', Below w.heap.size w W' → (if ¬ q.2.1 = 0 then e = .returned (.tuple #[.agg none25, .slice none 0 0, .int .i64 (q.2.1 : Int), .int .i64 (q.2.2 : Int)]) else match spl (s.size - n) (s.data.toList.drop n) 0 [] with
    | (acc, none) => ∃ v, e = .returned (.tuple #[.agg q.1, v, .int .i64 0, .int .i64 0]) ∧ W'.ownsRow w.heap.size 9 1 v acc.length (ts acc)
    | (_, some k) => e = .returned (.tuple #[.agg none25, .slice none 0 0, .int .i64 32, .int .i64 ((n + k : Nat) : Int)])) → SgPost s w e W') := fun e W' hb h => by
    refine ⟨hb, ?_⟩
    rw [if_neg hbig, ← hn, ← hA, ← hq]
    exact h
  have h2 : (n : Int) ≤ (s.size : Int) := by omega
  have h3 : (0 : Int) ≤ (n : Int) := by omega
  have HN : Hid (n ≤ s.size ∧ s.size ≤ 16384 ∧ s.data.toList.length = s.size) := ⟨hnl, by omega, hsL⟩
  clear hn hA hq hnl hsL
  unfold three at CP
  go_enter Tryd.func22, Tryd.ntmps22
  go_wp2_with fail
  refine (CL.out _).mono ?_
  rintro _ V ⟨rfl, rfl⟩
  clear hW0
  have zw : w.heap.size + 1 < V.heap.size := (Array.getElem?_eq_some_iff.1 H0.out.2.2).1
  have HZ : Hid (w.heap.size + 1 < V.heap.size) := zw
  clear zw
  rcases hform with ⟨f1, h, nm, hl, _, f2, f3⟩ | ⟨f1, f2⟩
  · obtain ⟨q1, q2, q3⟩ := q
    simp only at f1 f2 f3
    subst f1 f2 f3
    go_wp2_with fail
    refine (CP.out _).mono ?_
    rintro _ W1 ⟨rfl, b1⟩
    have zw := HZ.out
    have r1 : W1.heap[w.heap.size]? = some (.cells none25 25 (0, 0)) := (b1.block _ (by omega)).trans H0.out.2.1
    have r1' : W1.heap[w.heap.size + 1]? = some (.cells none25 25 (0, 0)) := (b1.block _ (by omega)).trans H0.out.2.2
    have z1 : w.heap.size + 1 < W1.heap.size := (Array.getElem?_eq_some_iff.1 r1').1
    have bel1 : Below w.heap.size w W1 := H0.out.1.trans (b1.mono (by omega))
    have s1 : (storeR 25 (.pointer (some ⟨W1.heap.size, 0, none⟩)) (.agg (lab h nm))).run Tryd.prog (W1.alloc (.cells #[.int .u8 0, .int .u8 0, .int .u8 0, .int .u8 0, .int .u8 0, .int .u8 0, .int .u8 0, .int .u8 0, .int .u8 0, .int .u8 0, .int .u8 0, .int .u8 0, .int .u8 0, .int .u8 0, .int .u8 0, .int .u8 0, .int .u8 0, .int .u8 0, .int .u8 0, .int .u8 0, .string ⟨#[]⟩] 25)) = .ok () ((W1.alloc (.cells none25 25)).setRow W1.heap.size (lab h nm)) := run_storeR25 (W1.alloc (.cells none25 25)) W1.heap.size z20 h ⟨#[]⟩ nm (heap_alloc_new _ _) rfl hl
    obtain ⟨W2, hW2⟩ : ∃ W, W = (W1.alloc (.cells none25 25)).setRow W1.heap.size (lab h nm) := ⟨_, rfl⟩
    have HR : Hid (Below w.heap.size w W2 ∧ W2.heap[w.heap.size]? = some (.cells none25 25 (0, 0)) ∧ W2.heap[w.heap.size + 1]? = some (.cells none25 25 (0, 0)) ∧ W2.heap[W1.heap.size]? = some (.cells (lab h nm) 25 (0, 0))) := by
      rw [hW2]
      exact ⟨below_setRow (bel1.alloc (by omega) _) (by omega) _, (setRow_other _ _ _ _ (by omega)).trans ((heap_alloc_old _ _ (h := by omega)).trans r1), (setRow_other _ _ _ _ (by omega)).trans ((heap_alloc_old _ _ (h := z1)).trans r1'), setRow_heap _ _ _ _ _ _ (heap_alloc_new _ _)⟩
    rw [← hW2] at s1
    have Z1 : Hid (w.heap.size + 1 < W1.heap.size) := z1
    clear hW2 r1 r1' b1 bel1 z1 zw
    go_wp2_with fail
    clear s1
    go_loopw [7, 11] (fun i v wr => ∃ (k fuel : Nat) (acc : List (List UInt8)), i = .int .i64 (k : Int) ∧ n ≤ k ∧ k ≤ s.size ∧ s.size ≤ k + fuel ∧ acc.length ≤ k ∧ Hid (wr.ownsRow W2.heap.size 9 1 v acc.length (ts acc)) ∧ Hid (spl fuel (s.data.toList.drop k) (k - n) acc = spl (s.size - n) (s.data.toList.drop n) 0 []) ∧ Below W2.heap.size W2 wr) (fun i _ _ => s.size - (intOf i).toNat)
    case atStart => exact ⟨n, s.size - n, [], rfl, Nat.le_refl _, HN.out.1, by have := HN.out; omega, by simp, World.ownsRow_nil _ _ _ _, by show _ = _; rw [Nat.sub_self], Below.refl _ W2⟩
    case round =>
      obtain ⟨k, fuel, acc, rfl, hnk, hk, hf, hac, hown, HS, bel⟩ := hrel
      have z2 : W1.heap.size < W2.heap.size := (Array.getElem?_eq_some_iff.1 HR.out.2.2.2).1
      have z1 := Z1.out
      have belw : Hid (Below w.heap.size w wr) := HR.out.1.trans (bel.mono (by omega))
      have hbz := bel.size
      have R1 : Hid (wr.heap[w.heap.size]? = some (.cells none25 25 (0, 0))) := (bel.block _ (by omega)).trans HR.out.2.1
      have R2 : Hid (wr.heap[w.heap.size + 1]? = some (.cells none25 25 (0, 0))) := (bel.block _ (by omega)).trans HR.out.2.2.1
      have R3 : Hid (wr.heap[W1.heap.size]? = some (.cells (lab h nm) 25 (0, 0))) := (bel.block _ (by omega)).trans HR.out.2.2.2
      by_cases hlt : k < s.size
      · have hlt' : (k : Int) < (s.size : Int) := by omega
        obtain ⟨f, rfl⟩ : ∃ f, fuel = f + 1 := ⟨fuel - 1, by omega⟩
        obtain ⟨r, hr⟩ : ∃ r, r = s.data.toList.drop (k + 1) := ⟨_, rfl⟩
        have hrl : r.length = s.size - (k + 1) := by rw [hr, List.length_drop, HN.out.2.2]
        obtain ⟨st, hst⟩ : ∃ st, st = pre 47 r := ⟨_, rfl⟩
        have hstl : st.length ≤ r.length := by rw [hst]; exact pre_len 47 r
        obtain ⟨m, hm⟩ : ∃ m, m = k + 1 + st.length := ⟨_, rfl⟩
        have hms : m ≤ s.size := by omega
        have hx : s.extract (k + 1) m = ofL st := by
          rw [ext_mid, ← hr, hm, Nat.add_sub_cancel_left, hst, pre_take]
        have hk1 : IntKind.i64.wrap ((k : Int) + 1) = (k : Int) + 1 := by rw [IntKind.wrap_i64]; have := HN.out; omega
        have hk2 : (0 : Int) ≤ (k : Int) + 1 := by omega
        have hk3 : (k : Int) + 1 ≤ (m : Int) := by omega
        have hk4 : (m : Int) ≤ (s.size : Int) := by omega
        have hk5 : (0 : Int) ≤ (m : Int) := by omega
        have hdk : ∃ b, s.data.toList.drop k = b :: r := ⟨_, by rw [hr]; exact List.drop_eq_getElem_cons (by rw [HN.out.2.2]; exact hlt)⟩
        obtain ⟨b0, hb0⟩ := hdk
        have C36 : Hid (∀ V, Calls Tryd.prog 36 #[.string s, .int .i64 ((k : Int) + 1)] V fun e w' => e = .returned (.int .i64 (m : Int)) ∧ w' = V) := fun V => by
          have := slash_any s (by have := HN.out; omega) (k + 1) V
          rw [slV_in s (k + 1) (by omega), ← hr, ← hst, ← hm] at this
          exact this
        have C37 : Hid (∀ V, Calls Tryd.prog 37 #[.string (ofL st)] V fun e w' => e = .returned (.bool (okS st)) ∧ w' = V) := fun V => by
          have := step_any (ofL st) (by rw [ofL_size]; have := HN.out; omega) V
          rw [ofL_list] at this
          exact this
        have HS2 : Hid (spl (s.size - n) (s.data.toList.drop n) 0 [] = if okS st = true then spl f (s.data.toList.drop m) (m - n) (acc ++ [st]) else (acc, some (k - n + 1))) := by
          show _ = _
          rw [← HS.out, hb0]
          show (if okS (pre 47 r) = true then spl f (r.drop (pre 47 r).length) (k - n + 1 + (pre 47 r).length) (acc ++ [pre 47 r]) else (acc, some (k - n + 1))) = _
          rw [← hst, hr, List.drop_drop, ← hm, show k - n + 1 + st.length = m - n by omega]
        have HM : Hid (m = k + 1 + st.length) := hm
        clear hst hr hb0 HS hm
        go_wp2_with fail
        refine (C36.out _).mono ?_
        rintro e w' ⟨rfl, hw'⟩
        subst hw'
        go_wp2_with fail
        refine (C37.out _).mono ?_
        rintro e w' ⟨rfl, hw'⟩
        subst hw'
        by_cases ho : okS st = true
        · simp only [ho, ite_true] at HS2
          rw [ho]
          obtain ⟨v', w2, hr2, hown2, bel2⟩ := run_appS w' W2.heap.size acc.length _ acc st hown.out (by have := HN.out; omega) hbz
          have hown2' : Hid (w2.ownsRow W2.heap.size 9 1 v' (acc.length + 1) (ts (acc ++ [st]))) := hown2
          clear hown2
          go_wp2_with fail
          refine ⟨⟨m, f, acc ++ [st], rfl, by omega, hms, by have := HM.out; omega, by have := HM.out; simp; omega, ?_, ?_, bel.trans bel2⟩, ?_⟩
          · rw [List.length_append]; exact hown2'
          · show _ = _
            rw [HS2.out]
          · simp only [intOf]; have := HM.out; omega
        · have ho' : okS st = false := by simpa using ho
          rw [ho']
          rw [ho'] at HS2
          obtain ⟨ld, st', HF⟩ := END.out _ R1.out R2.out belw.out
          go_wp2_with fail
          refine bodyPost_ret (results_cell4 rfl _ _ w.heap.size z20 ⟨#[]⟩ rfl rfl HF.out.1) rfl (PO.out _ _ HF.out.2 ?_)
          rw [if_neg (by simp), HS2.out]
          show _ = _
          simp
          exact ⟨rfl, by omega⟩
      · have hlt' : ¬ ((k : Int) < (s.size : Int)) := by omega
        have hke : k = s.size := by omega
        have l3 := run_loadR25 wr W1.heap.size h nm R3.out hl
        have s3 := run_storeR25 wr w.heap.size z20 h ⟨#[]⟩ nm R1.out rfl hl
        have hfin : Hid ((wr.setRow w.heap.size (lab h nm)).heap[w.heap.size]? = some (.cells (lab h nm) 25 (0, 0))) := setRow_heap _ _ _ _ _ _ R1.out
        have bel4 : Hid (Below w.heap.size w (wr.setRow w.heap.size (lab h nm))) := below_setRow belw.out (Nat.le_refl _) _
        have hown' : Hid ((wr.setRow w.heap.size (lab h nm)).ownsRow w.heap.size 9 1 u11 acc.length (ts acc)) := by
          obtain ⟨hlen, hv⟩ := hown.out
          refine ⟨hlen, ?_⟩
          rcases hv with hv | ⟨g, cap, cur, g1, g2, g3, g4⟩
          · exact .inl hv
          · exact .inr ⟨g, cap, cur, g1, by omega, (setRow_other _ _ _ _ (by omega)).trans g3, g4⟩
        have HE : Hid (spl (s.size - n) (s.data.toList.drop n) 0 [] = (acc, none)) := by
          show _ = _
          have h0 : s.data.toList.drop k = [] := List.drop_eq_nil_of_le (by rw [HN.out.2.2]; omega)
          rw [← HS.out, h0, spl_nil]
        clear hown HS
        go_wp2_with fail
        refine bodyPost_ret (results_cell4 rfl _ _ w.heap.size h nm hl rfl hfin.out) rfl (PO.out _ _ bel4.out ?_)
        rw [if_neg (by simp), HE.out]
        exact ⟨u11, rfl, hown'.out⟩
  · obtain ⟨q1, q2, q3⟩ := q
    simp only at f1 f2
    subst f2
    have f1' : ((q2 : Int) != 0) = true := by simp; omega
    go_wp2_with fail
    refine (CP.out _).mono ?_
    rintro _ W1 ⟨rfl, b1⟩
    have zw := HZ.out
    have r1 : W1.heap[w.heap.size]? = some (.cells none25 25 (0, 0)) := (b1.block _ (by omega)).trans H0.out.2.1
    have r1' : W1.heap[w.heap.size + 1]? = some (.cells none25 25 (0, 0)) := (b1.block _ (by omega)).trans H0.out.2.2
    have z1 : w.heap.size + 1 < W1.heap.size := (Array.getElem?_eq_some_iff.1 r1').1
    have bel1 : Below w.heap.size w W1 := H0.out.1.trans (b1.mono (by omega))
    have s1 : (storeR 25 (.pointer (some ⟨W1.heap.size, 0, none⟩)) (.agg none25)).run Tryd.prog (W1.alloc (.cells #[.int .u8 0, .int .u8 0, .int .u8 0, .int .u8 0, .int .u8 0, .int .u8 0, .int .u8 0, .int .u8 0, .int .u8 0, .int .u8 0, .int .u8 0, .int .u8 0, .int .u8 0, .int .u8 0, .int .u8 0, .int .u8 0, .int .u8 0, .int .u8 0, .int .u8 0, .int .u8 0, .string ⟨#[]⟩] 25)) = .ok () ((W1.alloc (.cells none25 25)).setRow W1.heap.size none25) := run_storeR25 (W1.alloc (.cells none25 25)) W1.heap.size z20 z20 ⟨#[]⟩ ⟨#[]⟩ (heap_alloc_new _ _) rfl rfl
    obtain ⟨W2, hW2⟩ : ∃ W, W = (W1.alloc (.cells none25 25)).setRow W1.heap.size none25 := ⟨_, rfl⟩
    have r2 : W2.heap[w.heap.size]? = some (.cells none25 25 (0, 0)) := by rw [hW2]; exact (setRow_other _ _ _ _ (by omega)).trans ((heap_alloc_old _ _ (h := by omega)).trans r1)
    have r2' : W2.heap[w.heap.size + 1]? = some (.cells none25 25 (0, 0)) := by rw [hW2]; exact (setRow_other _ _ _ _ (by omega)).trans ((heap_alloc_old _ _ (h := z1)).trans r1')
    have bel2 : Below w.heap.size w W2 := by rw [hW2]; exact below_setRow (bel1.alloc (by omega) _) (by omega) _
    rw [← hW2] at s1
    obtain ⟨ld, st, HF⟩ := END.out W2 r2 r2' bel2
    clear hW2 r2 r2' r1 r1' b1 bel1 bel2 z1 zw
    go_wp2_with fail
    refine bodyPost_ret (results_cell4 rfl _ _ w.heap.size z20 ⟨#[]⟩ rfl rfl HF.out.1) rfl (PO.out _ _ HF.out.2 ?_)
    rw [if_pos f1]
    rfl
end Go.Proofs.YtmfkhpledgnipaaDoor
