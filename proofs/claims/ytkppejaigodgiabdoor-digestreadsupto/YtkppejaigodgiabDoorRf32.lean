/- The document's own UnBase32. -/
import Derived.Test.YtkppejaigodgiabDoorRfW
import Derived.Test.YtkppejaigodgiabDoorUn32
namespace Go.Proofs.YtkppejaigodgiabDoor
open Go.RowKit
theorem pow_split (k : Nat) : 2 ^ k = 256 ^ (k / 8) * 2 ^ (k % 8) := by
  have h : (256 : Nat) = 2 ^ 8 := by decide
  rw [h, ← Nat.pow_mul, ← Nat.pow_add, Nat.div_add_mod]
theorem byte_top {N k : Nat} (h : N < 2 ^ k) : N / 256 ^ (k / 8) % 256 < 2 ^ (k % 8) := by
  have h1 : N / 256 ^ (k / 8) < 2 ^ (k % 8) := Nat.div_lt_of_lt_mul (by rw [← pow_split]; exact h)
  exact Nat.lt_of_le_of_lt (Nat.mod_le _ _) h1
theorem byts_bit {N k n : Nat} (h : N < 2 ^ k) : (byts N n).set (k / 8) (N / 256 ^ (k / 8) % 256 ||| 2 ^ (k % 8)) = byts (N + 2 ^ k) n := by
  have hq := pow_split k
  have h1 : N / 256 ^ (k / 8) < 2 ^ (k % 8) := Nat.div_lt_of_lt_mul (by rw [← hq]; exact h)
  have h8 : 2 ^ (k % 8) ≤ 2 ^ 7 := Nat.pow_le_pow_right (by decide) (by omega)
  apply List.ext_getElem
  · simp [byts]
  intro j hj hj'
  have hjn : j < n := by simpa [byts] using hj'
  rw [List.getElem_set]
  by_cases hjq : k / 8 = j
  · rw [if_pos hjq]
    subst hjq
    have hp : 0 < 256 ^ (k / 8) := Nat.pow_pos (by decide)
    have e1 : (N + 2 ^ k) / 256 ^ (k / 8) = N / 256 ^ (k / 8) + 2 ^ (k % 8) := by
      rw [hq, Nat.add_mul_div_left _ _ hp]
    simp only [byts, List.getElem_map, List.getElem_range]
    rw [e1]
    have this := Nat.two_pow_add_eq_or_of_lt h1 1
    rw [Nat.mul_one] at this
    generalize N / 256 ^ (k / 8) = x at *
    generalize 2 ^ (k % 8) = y at *
    rw [Nat.mod_eq_of_lt (a := x) (b := 256) (by omega), Nat.mod_eq_of_lt (a := x + y) (b := 256) (by omega), Nat.or_comm, ← this]
    omega
  · rw [if_neg hjq]
    simp only [byts, List.getElem_map, List.getElem_range]
    by_cases hlt : j < k / 8
    · have hp : 0 < 256 ^ j := Nat.pow_pos (by decide)
      have e2 : 2 ^ k = 256 ^ j * (256 * (256 ^ (k / 8 - j - 1) * 2 ^ (k % 8))) := by
        rw [hq, show k / 8 = j + (1 + (k / 8 - j - 1)) by omega, Nat.pow_add, Nat.pow_add, Nat.pow_one]
        rw [show j + (1 + (k / 8 - j - 1)) - j - 1 = k / 8 - j - 1 by omega]
        simp [Nat.mul_assoc]
      rw [e2, Nat.add_mul_div_left _ _ hp]
      omega
    · have e3 : 2 ^ k * 2 ≤ 256 ^ j := by
        have : 2 ^ k * 2 = 2 ^ (k + 1) := by rw [Nat.pow_succ]
        rw [this, show (256 : Nat) = 2 ^ 8 by decide, ← Nat.pow_mul]
        exact Nat.pow_le_pow_right (by decide) (by omega)
      rw [Nat.div_eq_of_lt (a := N) (by omega), Nat.div_eq_of_lt (by omega)]
theorem mod_next (v j : Nat) : v % 2 ^ (j + 1) = v % 2 ^ j + 2 ^ j * (v / 2 ^ j % 2) := by
  rw [Nat.pow_succ, Nat.mod_mul]
theorem step_lt {V v i j : Nat} (hV : V < 2 ^ (5 * i)) : V + v % 2 ^ j * 2 ^ (5 * i) < 2 ^ (5 * i + j) := by
  have h1 : v % 2 ^ j < 2 ^ j := Nat.mod_lt _ (Nat.pow_pos (by decide))
  rw [Nat.pow_add]
  have h2 : (v % 2 ^ j + 1) * 2 ^ (5 * i) ≤ 2 ^ j * 2 ^ (5 * i) := Nat.mul_le_mul_right _ h1
  rw [Nat.add_mul, Nat.one_mul] at h2
  rw [Nat.mul_comm (2 ^ (5 * i))]
  omega
theorem step_bit (V v i j : Nat) : V + v % 2 ^ (j + 1) * 2 ^ (5 * i) = V + v % 2 ^ j * 2 ^ (5 * i) + (v / 2 ^ j % 2) * 2 ^ (5 * i + j) := by
  rw [mod_next, Nat.add_mul, Nat.pow_add]
  have : 2 ^ j * (v / 2 ^ j % 2) * 2 ^ (5 * i) = v / 2 ^ j % 2 * (2 ^ (5 * i) * 2 ^ j) := by
    rw [Nat.mul_comm (2 ^ j), Nat.mul_assoc, Nat.mul_comm (2 ^ j)]
  omega
/-- Which memory and answer: as RdP, but one cell more lies behind the answer's own. -/
def RdQ (L : List Nat) (E : Nat × Nat) (w : World) (e : Ending) (w' : World) : Prop :=
  Below w.heap.size w w' ∧ ∃ v, e = .returned (.tuple #[v, .int .i64 ((E.1 : Nat) : Int), .int .i64 ((E.2 : Nat) : Int)]) ∧
    if E.1 = 0 then ∃ g x, v = .slice (some ⟨g, 0, none⟩) L.length L.length ∧ w.heap.size ≤ g ∧ w'.heap[g]? = some (.cells (bs (L ++ [x])) 5 (0, 0)) else v = .slice none 0 0
theorem byts_snoc (N n : Nat) : byts N (n + 1) = byts N n ++ [N / 256 ^ n % 256] := by
  simp [byts, List.range_succ]
theorem e256 (n : Nat) : (256 : Nat) ^ n = 2 ^ (8 * n) := by rw [show (256 : Nat) = 2 ^ 8 by decide, ← Nat.pow_mul]
theorem e32 (n : Nat) : (32 : Nat) ^ n = 2 ^ (5 * n) := by rw [show (32 : Nat) = 2 ^ 5 by decide, ← Nat.pow_mul]
theorem top_not {t : List Nat} (h1 : ¬ fuL D32 t < t.length) (h2 : ¬ 5 ≤ spL t) (h3 : 0 < spL t ∧ ¬ kv D32 (t.getD 0 0) / 2 ^ (5 - spL t) = 0) : ¬ numL t / 256 ^ (5 * t.length / 8) % 256 = 0 := by
  obtain ⟨h3, h4⟩ := h3
  have hpos : 0 < t.length := by unfold spL at h3; omega
  obtain ⟨k, hk⟩ : ∃ k, t.length = k + 1 := ⟨t.length - 1, by omega⟩
  have hsp : 5 * t.length - spL t = 8 * (5 * t.length / 8) := by unfold spL; omega
  have hle : spL t ≤ 5 * t.length := by unfold spL; omega
  have h5 : 2 ^ (5 - spL t) ≤ dvL t k := by
    have : dvL t k = kv D32 (t.getD 0 0) := by unfold dvL; rw [hk, show k + 1 - 1 - k = 0 by omega]
    rw [this]
    exact Nat.le_of_not_lt fun h => h4 (Nat.div_eq_of_lt h)
  have h6 : 256 ^ (5 * t.length / 8) ≤ numL t := by
    unfold numL
    rw [e256, ← hsp, hk, dsum]
    have h7 : 2 ^ (5 - spL t) * 32 ^ k ≤ dvL t k * 32 ^ k := Nat.mul_le_mul_right _ h5
    have h8 : 2 ^ (5 - spL t) * 32 ^ k = 2 ^ (5 * (k + 1) - spL t) := by
      rw [e32, ← Nat.pow_add]
      congr 1
      omega
    omega
  have h9 : numL t < 2 ^ (5 * t.length) := by
    rw [← e32]
    exact dsum_lt _ t.length (fun i hi => dvL_lt h1 i hi) _ (Nat.le_refl _)
  have h10 : numL t / 256 ^ (5 * t.length / 8) < 2 ^ spL t := by
    apply Nat.div_lt_of_lt_mul
    rw [e256, ← Nat.pow_add, ← hsp, show 5 * t.length - spL t + spL t = 5 * t.length by omega]
    exact h9
  have h11 : 0 < numL t / 256 ^ (5 * t.length / 8) := Nat.div_pos h6 (Nat.pow_pos (by decide))
  have h12 : 2 ^ spL t ≤ 2 ^ 5 := Nat.pow_le_pow_right (by decide) (by omega)
  rw [Nat.mod_eq_of_lt (by omega)]
  omega
theorem tl_dig32 : tl dig32A = D32 := by decide +kernel
theorem worth32 (c v : Nat) (hv : v = kv D32 c) (hc : D32.idxOf c < D32.length) (w : World) : Calls Tryd.prog 62 #[.string dig32A, .int .u8 (c : Int)] w fun e w' => e = .returned (.int .i64 (v : Int)) ∧ w' = w := by
  have := worth_any dig32A (by decide) c w
  rw [tl_dig32] at this
  unfold wv at this
  rw [if_pos hc] at this
  rw [hv]
  exact this
attribute [local go_sem ↓] toMk
set_option maxRecDepth 100000 in
set_option maxHeartbeats 3200000 in
theorem un32R_any (s : ByteArray) (hs : s.size ≤ 1099511627776) (w : World) : Calls Tryd.prog 49 #[.string s] w (RdQ (v32V (tl s)) (v32E (tl s)) w) := by
  have HTl : Hid ((tl s).length = s.size) := tl_len s
  have CB : Hid (∀ W, Calls Tryd.prog 61 #[.string dig32A, .string s] W fun e w' => e = .returned (.int .i64 (badV D32 (tl s))) ∧ w' = W) := fun W => by
    have := bad_any dig32A (by decide) s (by omega) W
    rw [tl_dig32] at this
    exact this
  go_enter Tryd.func49, Tryd.ntmps49
  go_wp2_with fail
  refine (CB.out w).mono ?_
  rintro e w' ⟨rfl, hw'⟩
  have hw2 := hw'.symm
  subst hw2
  clear CB
  by_cases hA : fuL D32 (tl s) < (tl s).length
  · have hE : Hid (v32E (tl s) = (10, fuL D32 (tl s))) := by
      show _ = _
      unfold v32E
      rw [if_pos hA]
    have hbv : badV D32 (tl s) = ((fuL D32 (tl s) : Nat) : Int) := by unfold badV; rw [if_pos hA]
    rw [hbv]
    obtain ⟨q, hq⟩ : ∃ q, q = fuL D32 (tl s) := ⟨_, rfl⟩
    rw [← hq] at hE ⊢
    have hq0 : (0 : Int) ≤ (q : Int) := by omega
    clear hbv hA hq
    go_wp2_with fail
    go_ret3
    refine ⟨Below.refl _ _, .slice none 0 0, ?_, ?_⟩
    · rw [hE.out]; rfl
    · rw [hE.out]; rfl
  · have hbv : badV D32 (tl s) = -1 := by unfold badV; rw [if_neg hA]
    rw [hbv]
    clear hbv
    have HF : Hid (¬ fuL D32 (tl s) < (tl s).length) := hA
    clear hA
    obtain ⟨n, hn⟩ : ∃ n, n = 5 * s.size / 8 := ⟨_, rfl⟩
    have hnI : 5 * (s.size : Int) / 8 = (n : Int) := by omega
    have hnT : Int.tdiv (5 * (s.size : Int)) 8 = (n : Int) := by rw [Int.tdiv_eq_ediv_of_nonneg (by omega)]; exact hnI
    have hnW : IntKind.i64.wrap (n : Int) = (n : Int) := by rw [IntKind.wrap_i64]; omega
    have hw5 : IntKind.i64.wrap (5 * (s.size : Int)) = 5 * (s.size : Int) := by rw [IntKind.wrap_i64]; omega
    have hw8 : IntKind.i64.wrap (8 * (n : Int)) = 8 * (n : Int) := by rw [IntKind.wrap_i64]; omega
    have hw84 : IntKind.i64.wrap (8 * (n : Int) + 4) = 8 * (n : Int) + 4 := by rw [IntKind.wrap_i64]; omega
    obtain ⟨q, hq⟩ : ∃ q, q = (8 * n + 4) / 5 := ⟨_, rfl⟩
    have hqI : (8 * (n : Int) + 4) / 5 = (q : Int) := by omega
    have hqT : Int.tdiv (8 * (n : Int) + 4) 5 = (q : Int) := by rw [Int.tdiv_eq_ediv_of_nonneg (by omega)]; exact hqI
    have hqW : IntKind.i64.wrap (q : Int) = (q : Int) := by rw [IntKind.wrap_i64]; omega
    have hn1 : n ≤ 1099511627776 := by omega
    have hsp : spL (tl s) = 5 * s.size - 8 * n := by unfold spL; rw [HTl.out, ← hn]
    have HN : Hid (n = 5 * s.size / 8) := hn
    by_cases hB : q = s.size
    case neg =>
      have hB' : ¬ ((q : Int) = (s.size : Int)) := by omega
      have hE : Hid (v32E (tl s) = (3, s.size)) := by show _ = _; unfold v32E; rw [if_neg HF.out, if_pos (by rw [hsp]; omega), HTl.out]
      clear hn hq hsp
      go_wp2_with fail
      go_ret3
      refine ⟨Below.refl _ _, .slice none 0 0, ?_, ?_⟩
      · rw [hE.out]; rfl
      · rw [hE.out]; rfl
    have hB' : (q : Int) = (s.size : Int) := by omega
    have H5 : Hid (¬ 5 ≤ spL (tl s)) := by show ¬ _; rw [hsp]; omega
    have H8 : Hid (5 * s.size ≤ 8 * n + 4) := by show _ ≤ _; omega
    obtain ⟨w0, hmk, hrow, hbel⟩ := run_mkN w (n + 1) (by omega)
    have hmk' : (mkR (.int .i64 ((n : Int) + 1)) (.int .i64 ((n : Int) + 1))).run Tryd.prog w = .ok (.slice (some ⟨w.heap.size, 0, none⟩) (n + 1) (n + 1)) w0 := hmk
    have hwn1 : IntKind.i64.wrap ((n : Int) + 1) = (n : Int) + 1 := by rw [IntKind.wrap_i64]; omega
    have HR0 : Hid (w0.heap[w.heap.size]? = some (.cells (bs (byts (dsum (dvL (tl s)) 0) (n + 1))) 5 (0, 0))) := by rw [dsum, byts_zero]; exact hrow
    have HB0 : Hid (Below w.heap.size w w0) := hbel
    clear hrow hbel hmk hn hq hsp hB
    go_wp2_with fail
    clear hnI hnT hw5 hw8 hw84 hqI hqT hqW hB' hmk' hw'
    go_loopw [8] (fun i wr => ∃ k : Nat, i = .int .i64 (k : Int) ∧ k ≤ s.size ∧ Hid (wr.heap[w.heap.size]? = some (.cells (bs (byts (dsum (dvL (tl s)) k) (n + 1))) 5 (0, 0))) ∧ Below w.heap.size w wr) (fun i _ => s.size - (intOf i).toNat)
    case atStart => exact ⟨0, rfl, by omega, HR0, HB0.out⟩
    case round =>
      obtain ⟨k, rfl, hk, HR, bel⟩ := hrel
      clear HR0 HB0
      by_cases hlt : k < s.size
      · have hk0 : (0 : Int) ≤ (k : Int) := by omega
        have hk1 : (k : Int) < (s.size : Int) := by omega
        obtain ⟨J, hJ⟩ : ∃ J, J = s.size - 1 - k := ⟨_, rfl⟩
        have hJ1 : IntKind.i64.wrap ((s.size : Int) - 1) = (s.size : Int) - 1 := by rw [IntKind.wrap_i64]; omega
        have hJ2 : IntKind.i64.wrap ((s.size : Int) - 1 - (k : Int)) = (J : Int) := by rw [IntKind.wrap_i64]; omega
        have hJ3 : (s.size : Int) - 1 - (k : Int) = (J : Int) := by omega
        have hJs : J < s.size := by omega
        obtain ⟨c, hc⟩ : ∃ c, c = byt s J := ⟨_, rfl⟩
        have ix : ∀ W : World, (Instr.index 9 (.string s) (.int .i64 (J : Int))).run Tryd.prog W = .ok (.int .u8 (c : Int)) W := fun W => by
          rw [hc]; exact idx9 W s J hJs
        have kcJ := fuL_all D32 (tl s) HF.out J (by rw [HTl.out]; exact hJs)
        rw [tl_get s J hJs, ← hc] at kcJ
        obtain ⟨v, hv⟩ : ∃ v, v = kv D32 c := ⟨_, rfl⟩
        have hdv : dvL (tl s) k = v := by unfold dvL; rw [HTl.out, ← hJ, tl_get s J hJs, ← hc]; exact hv.symm
        have hv32 : v < 32 := by rw [hv]; exact kcJ
        have C1 : Hid (Calls Tryd.prog 62 #[.string dig32A, .int .u8 (c : Int)] wr fun e w' => e = .returned (.int .i64 (v : Int)) ∧ w' = wr) := worth32 c v hv kcJ wr
        obtain ⟨V, hV⟩ : ∃ V, V = dsum (dvL (tl s)) k := ⟨_, rfl⟩
        have HVl : Hid (V < 2 ^ (5 * k)) := by
          show _ < _
          rw [hV, Nat.pow_mul]
          exact dsum_lt _ s.size (fun i hi => dvL_lt HF.out i (by rw [HTl.out]; exact hi)) k (by omega)
        have HN1 : Hid (dsum (dvL (tl s)) (k + 1) = V + v * 2 ^ (5 * k)) := by
          show _ = _
          rw [dsum, ← hV, hdv, Nat.pow_mul]
        rw [← hV] at HR
        clear hJ hc hv hdv kcJ hV
        go_wp2_with (go_at_call 62; refine C1.out.mono ?_; rintro e w' ⟨rfl, hw'⟩; have hw2 := hw'.symm; subst hw2)
        clear C1 ix hJ1 hJ2 hJ3
        go_loopw [10] (fun i wq => ∃ j : Nat, i = .int .i64 (j : Int) ∧ j ≤ 5 ∧ Hid (wq.heap[w.heap.size]? = some (.cells (bs (byts (V + v % 2 ^ j * 2 ^ (5 * k)) (n + 1))) 5 (0, 0))) ∧ Below w.heap.size w wq) (fun i _ => 5 - (intOf i).toNat)
        case atStart => exact ⟨0, rfl, by omega, by rw [Nat.pow_zero, Nat.mod_one, Nat.zero_mul]; exact HR, bel⟩
        case round =>
          clear HR bel
          obtain ⟨j, rfl, hj, HQ, bel⟩ := hrel
          by_cases hjl : j < 5
          · have hj0 : (0 : Int) ≤ (j : Int) := by omega
            have hj1 : (j : Int) < 5 := by omega
            obtain ⟨P, hP⟩ : ∃ P, P = v / 2 ^ j := ⟨_, rfl⟩
            have hPI : (v : Int) / 2 ^ j = (P : Int) := by rw [hP, pow_int]
            have hand := i64_and1 P
            have HST : Hid (V + v % 2 ^ (j + 1) * 2 ^ (5 * k) = V + v % 2 ^ j * 2 ^ (5 * k) + (P % 2) * 2 ^ (5 * k + j)) := by rw [hP]; exact step_bit V v k j
            have HLT : Hid (V + v % 2 ^ j * 2 ^ (5 * k) < 2 ^ (5 * k + j)) := step_lt HVl.out
            obtain ⟨N, hN⟩ : ∃ N, N = V + v % 2 ^ j * 2 ^ (5 * k) := ⟨_, rfl⟩
            rw [← hN] at HST HLT HQ
            clear hP hN
            obtain ⟨b, hb⟩ : ∃ b, b = 5 * k + j := ⟨_, rfl⟩
            obtain ⟨A, hA⟩ : ∃ A, A = b / 8 := ⟨_, rfl⟩
            obtain ⟨S, hS⟩ : ∃ S, S = b % 8 := ⟨_, rfl⟩
            have hbI : 5 * (k : Int) + (j : Int) = (b : Int) := by omega
            have hbW : IntKind.i64.wrap (b : Int) = (b : Int) := by rw [IntKind.wrap_i64]; omega
            have h5W : IntKind.i64.wrap (5 * (k : Int)) = 5 * (k : Int) := by rw [IntKind.wrap_i64]; omega
            have hAI : (b : Int) / 8 = (A : Int) := by omega
            have hAT : Int.tdiv (b : Int) 8 = (A : Int) := by rw [Int.tdiv_eq_ediv_of_nonneg (by omega)]; exact hAI
            have hAW : IntKind.i64.wrap (A : Int) = (A : Int) := by rw [IntKind.wrap_i64]; omega
            have hSI : (b : Int) % 8 = (S : Int) := by omega
            have hST : Int.tmod (b : Int) 8 = (S : Int) := by rw [Int.tmod_eq_emod_of_nonneg (by omega)]; exact hSI
            have hSW : IntKind.i64.wrap (S : Int) = (S : Int) := by rw [IntKind.wrap_i64]; omega
            have hS8 : S < 8 := by omega
            rw [← hb] at HST HLT
            by_cases hb1 : P % 2 = 1
            · rw [hb1] at hand HST
              replace hand : bits .and .i64 (P : Int) 1 = 1 := hand
              have hAn : A < n + 1 := by have := H8.out; omega
              have hA0 : (0 : Int) ≤ (A : Int) := by omega
              have hA1 : (A : Int) < (n : Int) + 1 := by omega
              have fz : wr.frozen? ⟨w.heap.size, A, none⟩ = false := frozen_of_row wr _ _ _ _ HQ.out
              obtain ⟨x, hx⟩ : ∃ x, x = N / 256 ^ A % 256 := ⟨_, rfl⟩
              have cA : wr.cell? ⟨w.heap.size, A, none⟩ = some (.int .u8 (x : Int)) := by
                rw [cell_of_row wr _ _ _ _ _ HQ.out, bs_get _ _ (by rw [byts_len]; exact hAn), byts_get _ _ _ hAn, hx]
              have hx256 : x < 256 := by rw [hx]; exact Nat.mod_lt _ (by decide)
              have h8 : 2 ^ S ≤ 2 ^ 7 := Nat.pow_le_pow_right (by decide) (by omega)
              obtain ⟨Y, hY⟩ : ∃ Y, Y = 2 ^ S := ⟨_, rfl⟩
              have hYI : (2 : Int) ^ S % 256 = (Y : Int) := by
                rw [show ((2 : Int) ^ S) = ((2 ^ S : Nat) : Int) by simp, ← hY]
                omega
              have hYI1 : 1 * (2 : Int) ^ S % 256 = (Y : Int) := by rw [Int.one_mul]; exact hYI
              obtain ⟨Z, hZ⟩ : ∃ Z, Z = x ||| Y := ⟨_, rfl⟩
              have hor : bits .or .u8 (x : Int) (Y : Int) = (Z : Int) := by rw [hZ]; exact u8_or_nat _ _ hx256 (by omega)
              have hr2 : Hid ((wr.setCell ⟨w.heap.size, A, none⟩ (.int .u8 (Z : Int))).heap[w.heap.size]? = some (.cells (bs (byts (V + v % 2 ^ (j + 1) * 2 ^ (5 * k)) (n + 1))) 5 (0, 0))) := by
                refine (heap_setCell_same _ _ _ _ _ _ HQ.out).trans ?_
                rw [bs_set, hZ, hx, hY, hA, hS, byts_bit HLT.out, HST.out, Nat.one_mul]
              have bel2 : Hid (Below w.heap.size w (wr.setCell ⟨w.heap.size, A, none⟩ (.int .u8 (Z : Int)))) := bel.setCell (Nat.le_refl _) _
              clear hb1 hb hA hS hx hY hZ h8 HQ bel HST HLT
              go_wp2_with fail
              go_roundw
              case rel => exact ⟨j + 1, by go_num, by omega, hr2, bel2.out⟩
              case measure => simp [intOf]; omega
            · have hb0 : P % 2 = 0 := by omega
              rw [hb0] at hand HST
              replace hand : bits .and .i64 (P : Int) 1 = 0 := hand
              rw [Nat.zero_mul, Nat.add_zero] at HST
              clear hb1 hb0 hb hA hS
              go_wp2_with fail
              go_roundw
              case rel => exact ⟨j + 1, by go_num, by omega, by rw [HST.out]; exact HQ, bel⟩
              case measure => simp [intOf]; omega
          · have hj1 : ¬ ((j : Int) < 5) := by omega
            have hje : j = 5 := by omega
            subst hje
            rw [show (2 : Nat) ^ 5 = 32 by decide, Nat.mod_eq_of_lt hv32, ← HN1.out] at HQ
            go_wp2_with fail
            go_roundw
            case rel => exact ⟨k + 1, by go_num, by omega, HQ, bel⟩
            case measure => simp [intOf]; omega
      · have hk1 : ¬ ((k : Int) < (s.size : Int)) := by omega
        have hke : k = s.size := by omega
        subst hke
        have hn0 : (0 : Int) ≤ (n : Int) := by omega
        have hnn : (n : Int) < (n : Int) + 1 := by omega
        have hnn2 : (n : Int) ≤ (n : Int) + 1 := by omega
        have HU : Hid (dsum (dvL (tl s)) s.size = numL (tl s)) := by show _ = _; rw [numL, HTl.out]
        rw [HU.out] at HR
        obtain ⟨x, hx⟩ : ∃ x, x = numL (tl s) / 256 ^ n % 256 := ⟨_, rfl⟩
        have cn : wr.cell? ⟨w.heap.size, n, none⟩ = some (.int .u8 (x : Int)) := by
          rw [cell_of_row wr _ _ _ _ _ HR.out, bs_get _ _ (by rw [byts_len]; omega), byts_get _ _ _ (by omega), hx]
        have HX : Hid (x = numL (tl s) / 256 ^ (5 * (tl s).length / 8) % 256) := by show _ = _; rw [hx, HTl.out, ← HN.out]
        have HV : Hid (v32V (tl s) ++ [x] = byts (numL (tl s)) (n + 1)) := by show _ = _; rw [byts_snoc, v32V, HTl.out, ← HN.out, hx]
        have HVl : Hid ((v32V (tl s)).length = n) := by show _ = _; rw [v32V, byts_len, HTl.out, HN.out]
        clear hx
        by_cases hT : 0 < spL (tl s) ∧ ¬ kv D32 ((tl s).getD 0 0) / 2 ^ (5 - spL (tl s)) = 0
        · have hE : Hid (v32E (tl s) = (11, 0)) := by show _ = _; unfold v32E; rw [if_neg HF.out, if_neg H5.out, if_pos hT]
          have hx0 : ¬ x = 0 := by rw [HX.out]; exact top_not HF.out H5.out hT
          have hx0' : ¬ ((x : Int) = 0) := by omega
          clear hT
          go_wp2_with fail
          go_ret3
          refine ⟨bel, .slice none 0 0, ?_, ?_⟩
          · rw [hE.out]; rfl
          · rw [hE.out]; rfl
        · have hE : Hid (v32E (tl s) = (0, 0)) := by show _ = _; unfold v32E; rw [if_neg HF.out, if_neg H5.out, if_neg hT]
          have hx0 : x = 0 := by
            rw [HX.out, Nat.div_eq_of_lt (numL_lt (by rw [hE.out]))]
          subst hx0
          clear hT
          go_wp2_with fail
          go_ret3
          refine ⟨bel, .slice (some ⟨w.heap.size, 0, none⟩) n n, ?_, ?_⟩
          · rw [hE.out]; rfl
          · rw [hE.out]
            show ∃ g x, _
            exact ⟨w.heap.size, 0, by rw [HVl.out], Nat.le_refl _, by rw [HV.out]; exact HR.out⟩
end Go.Proofs.YtkppejaigodgiabDoor
