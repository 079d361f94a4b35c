/- The reference's UnBase32 at thirty-two digits. -/
import Derived.Test.YtmfkhpledgnipaaDoorRefS
namespace Go.Proofs.YtmfkhpledgnipaaDoor
open Go.RowKit
theorem pow_split (k : Nat) : 2 ^ k = 256 ^ (k / 8) * 2 ^ (k % 8) := by
  have h : (256 : Nat) = 2 ^ 8 := by decide
  rw [h, ← Nat.pow_mul, ← Nat.pow_add, Nat.div_add_mod]
theorem byte_top {N k : Nat} (h : N < 2 ^ k) : N / 256 ^ (k / 8) % 256 < 2 ^ (k % 8) := by
  have h1 : N / 256 ^ (k / 8) < 2 ^ (k % 8) := Nat.div_lt_of_lt_mul (by rw [← pow_split]; exact h)
  exact Nat.lt_of_le_of_lt (Nat.mod_le _ _) h1
theorem byts_bit {N k n : Nat} (h : N < 2 ^ k) : (byts N n).set (k / 8) (N / 256 ^ (k / 8) % 256 ||| 2 ^ (k % 8)) = byts (N + 2 ^ k) n := by
  have hq := pow_split k
  have h1 : N / 256 ^ (k / 8) < 2 ^ (k % 8) := Nat.div_lt_of_lt_mul (by rw [← hq]; exact h)
  have h8 : 2 ^ (k % 8) ≤ 2 ^ 7 := Nat.pow_le_pow_right (by decide) (by omega)
  apply List.ext_getElem
  · simp [byts]
  intro j hj hj'
  have hjn : j < n := by simpa [byts] using hj'
  rw [List.getElem_set]
  by_cases hjq : k / 8 = j
  · rw [if_pos hjq]
    subst hjq
    have hp : 0 < 256 ^ (k / 8) := Nat.pow_pos (by decide)
    have e1 : (N + 2 ^ k) / 256 ^ (k / 8) = N / 256 ^ (k / 8) + 2 ^ (k % 8) := by
      rw [hq, Nat.add_mul_div_left _ _ hp]
    simp only [byts, List.getElem_map, List.getElem_range]
    rw [e1]
    have this := Nat.two_pow_add_eq_or_of_lt h1 1
    rw [Nat.mul_one] at this
    generalize N / 256 ^ (k / 8) = x at *
    generalize 2 ^ (k % 8) = y at *
    rw [Nat.mod_eq_of_lt (a := x) (b := 256) (by omega), Nat.mod_eq_of_lt (a := x + y) (b := 256) (by omega), Nat.or_comm, ← this]
    omega
  · rw [if_neg hjq]
    simp only [byts, List.getElem_map, List.getElem_range]
    by_cases hlt : j < k / 8
    · have hp : 0 < 256 ^ j := Nat.pow_pos (by decide)
      have e2 : 2 ^ k = 256 ^ j * (256 * (256 ^ (k / 8 - j - 1) * 2 ^ (k % 8))) := by
        rw [hq, show k / 8 = j + (1 + (k / 8 - j - 1)) by omega, Nat.pow_add, Nat.pow_add, Nat.pow_one]
        rw [show j + (1 + (k / 8 - j - 1)) - j - 1 = k / 8 - j - 1 by omega]
        simp [Nat.mul_assoc]
      rw [e2, Nat.add_mul_div_left _ _ hp]
      omega
    · have e3 : 2 ^ k * 2 ≤ 256 ^ j := by
        have : 2 ^ k * 2 = 2 ^ (k + 1) := by rw [Nat.pow_succ]
        rw [this, show (256 : Nat) = 2 ^ 8 by decide, ← Nat.pow_mul]
        exact Nat.pow_le_pow_right (by decide) (by omega)
      rw [Nat.div_eq_of_lt (a := N) (by omega), Nat.div_eq_of_lt (by omega)]
theorem mod_next (v j : Nat) : v % 2 ^ (j + 1) = v % 2 ^ j + 2 ^ j * (v / 2 ^ j % 2) := by
  rw [Nat.pow_succ, Nat.mod_mul]
theorem step_lt {V v i j : Nat} (hV : V < 2 ^ (5 * i)) : V + v % 2 ^ j * 2 ^ (5 * i) < 2 ^ (5 * i + j) := by
  have h1 : v % 2 ^ j < 2 ^ j := Nat.mod_lt _ (Nat.pow_pos (by decide))
  rw [Nat.pow_add]
  have h2 : (v % 2 ^ j + 1) * 2 ^ (5 * i) ≤ 2 ^ j * 2 ^ (5 * i) := Nat.mul_le_mul_right _ h1
  rw [Nat.add_mul, Nat.one_mul] at h2
  rw [Nat.mul_comm (2 ^ (5 * i))]
  omega
theorem step_bit (V v i j : Nat) : V + v % 2 ^ (j + 1) * 2 ^ (5 * i) = V + v % 2 ^ j * 2 ^ (5 * i) + (v / 2 ^ j % 2) * 2 ^ (5 * i + j) := by
  rw [mod_next, Nat.add_mul, Nat.pow_add]
  have : 2 ^ j * (v / 2 ^ j % 2) * 2 ^ (5 * i) = v / 2 ^ j % 2 * (2 ^ (5 * i) * 2 ^ j) := by
    rw [Nat.mul_comm (2 ^ j), Nat.mul_assoc, Nat.mul_comm (2 ^ j)]
  omega
attribute [local go_sem ↓] toMk
set_option maxRecDepth 100000 in
set_option maxHeartbeats 3200000 in
theorem unR_any (s : ByteArray) (hs : s.size = 32) (hk : ∀ i, i < 32 → ¬ kn 32 (byt s i) = 0) (w : World) :
    Calls Tryd.prog 35 #[.string s] w fun e w' => ∃ g, e = .returned (.tuple #[.slice (some ⟨g, 0, none⟩) 20 20, .int .i64 0, .int .i64 0]) ∧ Below w.heap.size w w' ∧ w.heap.size ≤ g ∧ w'.heap[g]? = some (.cells (bs (byts (unN s) 21)) 5 (0, 0)) := by
  have CB := bad_none s (by omega) (fun i hi => hk i (by omega)) w
  have CW : Hid (∀ (c : Nat), c < 256 → ∀ W, Calls Tryd.prog 47 #[.string dig32, .int .u8 (c : Int)] W fun e w' => e = .returned (.int .i64 ((kn 32 c : Int) - 1)) ∧ w' = W) := fun c hc W => worth_any c hc W
  have hsI : (s.size : Int) = 32 := by omega
  obtain ⟨w0, hmk, hrow, hbel⟩ := run_mkN w 21 (by decide)
  have HR0 : Hid (w0.heap[w.heap.size]? = some (.cells (bs (byts 0 21)) 5 (0, 0))) := hrow
  have HS : Hid (s.size = 32) := hs
  have HK : Hid (∀ i, i < 32 → ¬ kn 32 (byt s i) = 0) := hk
  have HB0 : Hid (Below w.heap.size w w0) := hbel
  clear hrow hs hk hbel
  go_enter Tryd.func35, Tryd.ntmps35
  go_wp2_with fail
  refine CB.mono ?_
  rintro e w' ⟨rfl, hw'⟩
  have hw2 := hw'.symm
  subst hw2
  replace hmk : (mkR (.int .i64 21) (.int .i64 21)).run Tryd.prog w = .ok (.slice (some ⟨w.heap.size, 0, none⟩) 21 21) w0 := hmk
  go_wp2_with fail
  go_loopw [8] (fun i wr => ∃ k : Nat, i = .int .i64 (k : Int) ∧ k ≤ 32 ∧ Hid (wr.heap[w.heap.size]? = some (.cells (bs (byts (dsum (dvN s) k) 21)) 5 (0, 0))) ∧ Below w.heap.size w wr) (fun i _ => 32 - (intOf i).toNat)
  case atStart => exact ⟨0, rfl, by omega, HR0, HB0.out⟩
  case round =>
    obtain ⟨k, rfl, hk, HR, bel⟩ := hrel
    by_cases hlt : k < 32
    · have hk0 : (0 : Int) ≤ (k : Int) := by omega
      have hk1 : (k : Int) < 32 := by omega
      obtain ⟨J, hJ⟩ : ∃ J, J = 31 - k := ⟨_, rfl⟩
      have hJ1 : IntKind.i64.wrap (31 - (k : Int)) = (J : Int) := by rw [IntKind.wrap_i64]; omega
      have hJ2 : (31 : Int) - (k : Int) = (J : Int) := by omega
      obtain ⟨c, hc⟩ : ∃ c, c = byt s J := ⟨_, rfl⟩
      have ix : ∀ W : World, (Instr.index 9 (.string s) (.int .i64 (J : Int))).run Tryd.prog W = .ok (.int .u8 (c : Int)) W := fun W => by
        rw [hc]; exact idx9 W s J (by have := HS.out; omega)
      obtain ⟨v, hv⟩ : ∃ v, v = dvN s k := ⟨_, rfl⟩
      have hvv : (kn 32 c : Int) - 1 = (v : Int) := by
        have := HK.out J (by omega)
        rw [← hc] at this
        rw [hv, dvN, HS.out, show 32 - 1 - k = J by omega, ← hc]
        omega
      have hv32 : v < 32 := by
        have : kn 32 c ≤ 32 := by unfold kn; split <;> omega
        omega
      have C1 := CW.out c (by rw [hc]; exact byt_lt s J) wr
      rw [hvv] at C1
      obtain ⟨V, hV⟩ : ∃ V, V = dsum (dvN s) k := ⟨_, rfl⟩
      have hVl : V < 2 ^ (5 * k) := by
        rw [hV, Nat.pow_mul]
        exact dsum_lt (dvN s) 32 (fun i _ => by
          unfold dvN kn
          split <;> omega) k (by omega)
      have HN : Hid (dsum (dvN s) (k + 1) = V + v * 2 ^ (5 * k)) := by
        show _ = _
        rw [dsum, ← hV, ← hv, Nat.pow_mul]
      rw [← hV] at HR
      clear hJ hc hv hvv hV
      go_wp2_with fail
      refine C1.mono ?_
      rintro e w' ⟨rfl, hw'⟩
      subst hw'
      go_wp2_with fail
      go_loopw [10] (fun i wq => ∃ j : Nat, i = .int .i64 (j : Int) ∧ j ≤ 5 ∧ Hid (wq.heap[w.heap.size]? = some (.cells (bs (byts (V + v % 2 ^ j * 2 ^ (5 * k)) 21)) 5 (0, 0))) ∧ Below w.heap.size w wq) (fun i _ => 5 - (intOf i).toNat)
      case atStart => exact ⟨0, rfl, by omega, by rw [Nat.pow_zero, Nat.mod_one, Nat.zero_mul]; exact HR, bel⟩
      case round =>
        clear HR bel C1
        obtain ⟨j, rfl, hj, HQ, bel⟩ := hrel
        by_cases hjl : j < 5
        · have hj0 : (0 : Int) ≤ (j : Int) := by omega
          have hj1 : (j : Int) < 5 := by omega
          obtain ⟨P, hP⟩ : ∃ P, P = v / 2 ^ j := ⟨_, rfl⟩
          have hPI : (v : Int) / 2 ^ j = (P : Int) := by rw [hP, pow_int]
          have hand := i64_and1 P
          have HST : Hid (V + v % 2 ^ (j + 1) * 2 ^ (5 * k) = V + v % 2 ^ j * 2 ^ (5 * k) + (P % 2) * 2 ^ (5 * k + j)) := by rw [hP]; exact step_bit V v k j
          have HLT : Hid (V + v % 2 ^ j * 2 ^ (5 * k) < 2 ^ (5 * k + j)) := step_lt hVl
          obtain ⟨N, hN⟩ : ∃ N, N = V + v % 2 ^ j * 2 ^ (5 * k) := ⟨_, rfl⟩
          rw [← hN] at HST HLT HQ
          clear hP hN
          by_cases hb : P % 2 = 1
          · rw [hb] at hand HST
            replace hand : bits .and .i64 (P : Int) 1 = 1 := hand
            have hA : (5 * k + j) / 8 < 21 := by omega
            have fz : wr.frozen? ⟨w.heap.size, (5 * k + j) / 8, none⟩ = false := frozen_of_row wr _ _ _ _ HQ.out
            obtain ⟨x, hx⟩ : ∃ x, x = N / 256 ^ ((5 * k + j) / 8) % 256 := ⟨_, rfl⟩
            have cA : wr.cell? ⟨w.heap.size, (5 * k + j) / 8, none⟩ = some (.int .u8 (x : Int)) := by
              rw [cell_of_row wr _ _ _ _ _ HQ.out, bs_get _ _ (by rw [byts_len]; exact hA), byts_get _ _ _ hA, hx]
            have HX : Hid (x = N / 256 ^ ((5 * k + j) / 8) % 256) := hx
            have hx256 : x < 256 := by rw [hx]; exact Nat.mod_lt _ (by decide)
            clear hx hb
            have hor : bits .or .u8 (x : Int) (2 ^ ((5 * k + j) % 8) % 256) = ((x ||| 2 ^ ((5 * k + j) % 8) : Nat) : Int) := by
              have h8 : 2 ^ ((5 * k + j) % 8) ≤ 2 ^ 7 := Nat.pow_le_pow_right (by decide) (by omega)
              have e : ((2 : Int) ^ ((5 * k + j) % 8) % 256) = ((2 ^ ((5 * k + j) % 8) : Nat) : Int) := by
                rw [show ((2 : Int) ^ ((5 * k + j) % 8)) = ((2 ^ ((5 * k + j) % 8) : Nat) : Int) by simp]
                generalize (2 ^ ((5 * k + j) % 8) : Nat) = y at h8
                omega
              rw [e]
              exact u8_or_nat _ _ hx256 (by omega)
            have hr2 : Hid ((wr.setCell ⟨w.heap.size, (5 * k + j) / 8, none⟩ (.int .u8 ((x ||| 2 ^ ((5 * k + j) % 8) : Nat) : Int))).heap[w.heap.size]? = some (.cells (bs (byts (V + v % 2 ^ (j + 1) * 2 ^ (5 * k)) 21)) 5 (0, 0))) := by
              refine (heap_setCell_same _ _ _ _ _ _ HQ.out).trans ?_
              rw [bs_set, HX.out, byts_bit HLT.out, HST.out, Nat.one_mul]
            have HOR : Hid (bits .or .u8 (x : Int) (2 ^ ((5 * k + j) % 8) % 256) = ((x ||| 2 ^ ((5 * k + j) % 8) : Nat) : Int)) := hor
            clear hor
            go_wp2_with fail
            rw [HOR.out]
            exact ⟨⟨j + 1, by simp, by omega, hr2, bel.setCell (Nat.le_refl _) _⟩, by simp only [intOf]; omega⟩
          · have hb0 : P % 2 = 0 := by omega
            rw [hb0] at hand HST
            replace hand : bits .and .i64 (P : Int) 1 = 0 := hand
            rw [Nat.zero_mul, Nat.add_zero] at HST
            clear hb hb0
            go_wp2_with fail
            exact ⟨⟨j + 1, by simp, by omega, by rw [HST.out]; exact HQ, bel⟩, by simp only [intOf]; omega⟩
        · have hj1 : ¬ ((j : Int) < 5) := by omega
          have hje : j = 5 := by omega
          subst hje
          rw [show (2 : Nat) ^ 5 = 32 by decide, Nat.mod_eq_of_lt hv32, ← HN.out] at HQ
          go_wp2_with fail
          exact ⟨⟨k + 1, by simp, by omega, HQ, bel⟩, by simp only [intOf]; omega⟩
    · have hk1 : ¬ ((k : Int) < 32) := by omega
      have hke : k = 32 := by omega
      subst hke
      have hun : dsum (dvN s) 32 = unN s := by rw [unN, HS.out]
      rw [hun] at HR
      have hlt : unN s < 256 ^ 20 := by
        rw [← hun]
        exact Nat.lt_of_lt_of_le (dsum_lt (dvN s) 32 (fun i _ => by unfold dvN kn; split <;> omega) 32 (by omega)) (by decide)
      have c20 : wr.cell? ⟨w.heap.size, 20, none⟩ = some (.int .u8 0) := by
        rw [cell_of_row wr _ _ _ _ _ HR.out, bs_get _ _ (by rw [byts_len]; omega), byts_get _ _ _ (by omega), Nat.div_eq_of_lt hlt]
        rfl
      clear hun hlt
      go_wp2_with fail
      go_ret3
      exact ⟨w.heap.size, rfl, bel, Nat.le_refl _, HR.out⟩
end Go.Proofs.YtmfkhpledgnipaaDoor
