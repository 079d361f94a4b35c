/- Base 32: the code's and the document's. -/
import Derived.Test.YtceclpabdfncoaaDoorSl
namespace Go.Proofs.YtceclpabdfncoaaDoor
open Go.RowKit
attribute [local go_sem ↓] toMk
theorem pow_int (p S : Nat) : (p : Int) / 2 ^ S = ((p / 2 ^ S : Nat) : Int) := by simp
theorem mul_int (q S : Nat) : (q : Int) * 2 ^ S % 256 = ((q * 2 ^ S % 256 : Nat) : Int) := by simp
theorem at_lt (n k : Nat) (h : k < n32 n) : 5 * k / 8 < n := by unfold n32 at h; omega
set_option maxRecDepth 100000 in
set_option maxHeartbeats 3200000 in
theorem b32C_any (s : List Nat) (hb : Byt s) (hl : s.length ≤ 1099511627776) (v : Value) (w : World) (hv : Byl v s w) (ht : Tx w) :
    Calls Tryd.prog 4 #[v] w fun e w' => e = .returned (txt (b32L s)) ∧ Below w.heap.size w w' := by
  obtain ⟨o, c, rfl, _, _, ho⟩ := hv.form
  obtain ⟨n, hn⟩ : ∃ n, n = n32 s.length := ⟨_, rfl⟩
  have hn1 : n ≤ 2199023255552 := by rw [hn]; unfold n32; omega
  have hnI : (8 * (s.length : Int) + 4) / 5 = (n : Int) := by rw [hn]; unfold n32; omega
  have hnT : Int.tdiv (8 * (s.length : Int) + 4) 5 = (n : Int) := by rw [Int.tdiv_eq_ediv_of_nonneg (by omega)]; exact hnI
  have hnW : IntKind.i64.wrap (n : Int) = (n : Int) := by rw [IntKind.wrap_i64]; omega
  have hw8 : IntKind.i64.wrap (8 * (s.length : Int)) = 8 * (s.length : Int) := by rw [IntKind.wrap_i64]; omega
  have hw84 : IntKind.i64.wrap (8 * (s.length : Int) + 4) = 8 * (s.length : Int) + 4 := by rw [IntKind.wrap_i64]; omega
  obtain ⟨w0, hmk, hrow0, bel0⟩ := run_mkN w n (by omega)
  have hs0 := (Array.getElem?_eq_some_iff.1 hrow0).1
  have HR0 : Hid (w0.heap[w.heap.size]? = some (.cells (bs (part32 s 0)) 5 (0, 0))) := by rw [part32_zero, ← hn]; exact hrow0
  clear hrow0
  have hsz := ht.sz
  have HN : Hid (n = n32 s.length) := hn
  clear hn
  go_enter Tryd.func4, Tryd.ntmps4
  go_wp2_with fail
  go_loopw [16] (fun i wr => ∃ k : Nat, i = .int .i64 (k : Int) ∧ k ≤ n ∧ Hid (wr.heap[w.heap.size]? = some (.cells (bs (part32 s k)) 5 (0, 0))) ∧ Touch w.heap.size w0 wr) (fun i _ => n - (intOf i).toNat)
  case atStart => exact ⟨0, rfl, by omega, HR0, Touch.refl _ _⟩
  case round =>
    obtain ⟨k, rfl, hk, hrow, htc⟩ := hrel
    have hbl : Below w.heap.size w wr := bel0.trans (htc.below (Nat.le_refl _) (by omega))
    have hszr : w.heap.size < wr.heap.size := (Array.getElem?_eq_some_iff.1 hrow.out).1
    by_cases hlt : k < n
    · have hk0 : (0 : Int) ≤ (k : Int) := by omega
      have hk1 : (k : Int) < (n : Int) := by omega
      have hat := at_lt s.length k (by rw [← HN.out]; exact hlt)
      obtain ⟨b1, o1, rfl, hb1, hc1⟩ := ho (by omega)
      obtain ⟨p, hp⟩ : ∃ x, x = s.getD (5 * k / 8) 0 := ⟨_, rfl⟩
      obtain ⟨q, hq⟩ : ∃ x, x = s.getD (5 * k / 8 + 1) 0 := ⟨_, rfl⟩
      have hp256 : p < 256 := by rw [hp]; exact getT hb _
      have hq256 : q < 256 := by rw [hq]; exact getT hb _
      have cp : wr.cell? ⟨b1, o1 + 5 * k / 8, none⟩ = some (.int .u8 (p : Int)) := by rw [hp]; exact (World.cell?_of_block (w := w) (hbl.block b1 hb1)).trans (hc1 _ hat)
      obtain ⟨A, hA⟩ : ∃ A, A = 5 * k / 8 := ⟨_, rfl⟩
      obtain ⟨S, hS⟩ : ∃ S, S = 5 * k % 8 := ⟨_, rfl⟩
      have hv32 : v32 s k = d32 p q S := by rw [hp, hq, hS]; rfl
      have HV : Hid (v32 s k = d32 p q S) := hv32
      rw [← hA] at cp hat
      have hA5 : A ≤ 5497558138880 := by omega
      have hS8 : S < 8 := by omega
      have hAI : 5 * (k : Int) / 8 = (A : Int) := by omega
      have hAT : Int.tdiv (5 * (k : Int)) 8 = (A : Int) := by rw [Int.tdiv_eq_ediv_of_nonneg (by omega)]; exact hAI
      have hAW : IntKind.i64.wrap (A : Int) = (A : Int) := by rw [IntKind.wrap_i64]; omega
      have hSI : 5 * (k : Int) % 8 = (S : Int) := by omega
      have hST : Int.tmod (5 * (k : Int)) 8 = (S : Int) := by rw [Int.tmod_eq_emod_of_nonneg (by omega)]; exact hSI
      have hSW : IntKind.i64.wrap (S : Int) = (S : Int) := by rw [IntKind.wrap_i64]; omega
      have hw5 : IntKind.i64.wrap (5 * (k : Int)) = 5 * (k : Int) := by rw [IntKind.wrap_i64]; omega
      have hA0 : (0 : Int) ≤ (A : Int) := by omega
      have hA1 : (A : Int) < (s.length : Int) := by omega
      have hS0 : (0 : Int) ≤ (S : Int) := by omega
      have hS1 : ¬ ((S : Int) < 0) := by omega
      have hA1W : IntKind.i64.wrap ((A : Int) + 1) = (A : Int) + 1 := by rw [IntKind.wrap_i64]; omega
      by_cases hA2 : A + 1 < s.length
      · have hA3 : (A : Int) + 1 < (s.length : Int) := by omega
        have hA4 : (0 : Int) ≤ (A : Int) + 1 := by omega
        have cq : wr.cell? ⟨b1, o1 + (A + 1), none⟩ = some (.int .u8 (q : Int)) := by rw [hq, ← hA]; exact (World.cell?_of_block (w := w) (hbl.block b1 hb1)).trans (hc1 _ (by omega))
        obtain ⟨P, hP⟩ : ∃ P, P = p / 2 ^ S := ⟨_, rfl⟩
        obtain ⟨Q, hQ⟩ : ∃ Q, Q = q * 2 ^ (8 - S) % 256 := ⟨_, rfl⟩
        obtain ⟨D, hD⟩ : ∃ D, D = d32 p q S := ⟨_, rfl⟩
        have hPI : (p : Int) / 2 ^ S = (P : Int) := by rw [hP, pow_int]
        have hQI : (q : Int) * 2 ^ (8 - S) % 256 = (Q : Int) := by rw [hQ, mul_int]
        have hP256 : P < 256 := by rw [hP]; exact Nat.lt_of_le_of_lt (Nat.div_le_self _ _) hp256
        have hQ256 : Q < 256 := by rw [hQ]; exact Nat.mod_lt _ (by decide)
        obtain ⟨X, hX⟩ : ∃ X, X = P ||| Q := ⟨_, rfl⟩
        have hor : bits BinOp.or IntKind.u8 (P : Int) (Q : Int) = (X : Int) := by rw [hX]; exact u8_or_nat P Q hP256 hQ256
        have hX256 : X < 256 := by rw [hX]; exact Nat.or_lt_two_pow (n := 8) hP256 hQ256
        have hand : bits BinOp.and IntKind.u8 (X : Int) 31 = (D : Int) := by
          rw [show (31 : Int) = ((31 : Nat) : Int) from rfl, u8_and_nat X 31 hX256 (by decide), Nat.and_two_pow_sub_one_eq_mod X 5, hX, hP, hQ, hD, ← code32 p q S hS8 hp256]
        clear hX hP hQ
        have hD32 : D < 32 := by rw [hD]; exact d32_lt _ _ _
        have hD0 : (0 : Int) ≤ (D : Int) := by omega
        have hD1 : (D : Int) < 32 := by omega
        have htr : Tx wr := ht.below hbl hsz
        have dD := htr.b D hD32
        obtain ⟨J, hJ⟩ : ∃ J, J = n - 1 - k := ⟨_, rfl⟩
        have hJ1 : IntKind.i64.wrap ((n : Int) - 1) = (n : Int) - 1 := by rw [IntKind.wrap_i64]; omega
        have hJ2 : IntKind.i64.wrap ((n : Int) - 1 - (k : Int)) = (J : Int) := by rw [IntKind.wrap_i64]; omega
        have hJ3 : (n : Int) - 1 - (k : Int) = (J : Int) := by omega
        have hJ0 : (0 : Int) ≤ (J : Int) := by omega
        have hJ4 : (J : Int) < (n : Int) := by omega
        have fz : wr.frozen? ⟨w.heap.size, J, none⟩ = false := frozen_of_row wr _ _ _ _ hrow.out
        have cJ : wr.cell? ⟨w.heap.size, J, none⟩ = some (.int .u8 (((part32 s k).getD J 0 : Nat) : Int)) := by rw [cell_of_row wr _ _ _ _ _ hrow.out, bs_get _ _ (by rw [part32_len, ← HN.out]; omega)]
        have hr2 : Hid ((wr.setCell ⟨w.heap.size, J, none⟩ (.int .u8 ((g32 D : Nat) : Int))).heap[w.heap.size]? = some (.cells (bs (part32 s (k + 1))) 5 (0, 0))) := by
          refine (heap_setCell_same _ _ _ _ _ _ hrow.out).trans ?_
          rw [bs_set, hJ, hD, ← HV.out, HN.out, part32_set s k (by rw [← HN.out]; exact hlt)]
        have htc2 : Touch w.heap.size w0 (wr.setCell ⟨w.heap.size, J, none⟩ (.int .u8 ((g32 D : Nat) : Int))) := htc.setCell _
        clear hA hS hp hq hJ hD
        go_wp2
        go_roundw
        case rel => exact ⟨k + 1, by go_num, by omega, hr2, htc2⟩
        case measure => simp [intOf]; omega
      · have hA3 : ¬ ((A : Int) + 1 < (s.length : Int)) := by omega
        have hq0 : q = 0 := by rw [hq, List.getD, List.getElem?_eq_none (by omega)]; rfl
        obtain ⟨P, hP⟩ : ∃ P, P = p / 2 ^ S := ⟨_, rfl⟩
        obtain ⟨D, hD⟩ : ∃ D, D = d32 p q S := ⟨_, rfl⟩
        have hPI : (p : Int) / 2 ^ S = (P : Int) := by rw [hP, pow_int]
        have hP256 : P < 256 := by rw [hP]; exact Nat.lt_of_le_of_lt (Nat.div_le_self _ _) hp256
        have hand : bits BinOp.and IntKind.u8 (P : Int) 31 = (D : Int) := by
          rw [show (31 : Int) = ((31 : Nat) : Int) from rfl, u8_and_nat P 31 hP256 (by decide), Nat.and_two_pow_sub_one_eq_mod P 5, hP, hD, hq0, ← code32z]
        clear hP hq0
        have hD32 : D < 32 := by rw [hD]; exact d32_lt _ _ _
        have hD0 : (0 : Int) ≤ (D : Int) := by omega
        have hD1 : (D : Int) < 32 := by omega
        have htr : Tx wr := ht.below hbl hsz
        have dD := htr.b D hD32
        obtain ⟨J, hJ⟩ : ∃ J, J = n - 1 - k := ⟨_, rfl⟩
        have hJ1 : IntKind.i64.wrap ((n : Int) - 1) = (n : Int) - 1 := by rw [IntKind.wrap_i64]; omega
        have hJ2 : IntKind.i64.wrap ((n : Int) - 1 - (k : Int)) = (J : Int) := by rw [IntKind.wrap_i64]; omega
        have hJ3 : (n : Int) - 1 - (k : Int) = (J : Int) := by omega
        have hJ0 : (0 : Int) ≤ (J : Int) := by omega
        have hJ4 : (J : Int) < (n : Int) := by omega
        have fz : wr.frozen? ⟨w.heap.size, J, none⟩ = false := frozen_of_row wr _ _ _ _ hrow.out
        have cJ : wr.cell? ⟨w.heap.size, J, none⟩ = some (.int .u8 (((part32 s k).getD J 0 : Nat) : Int)) := by rw [cell_of_row wr _ _ _ _ _ hrow.out, bs_get _ _ (by rw [part32_len, ← HN.out]; omega)]
        have hr2 : Hid ((wr.setCell ⟨w.heap.size, J, none⟩ (.int .u8 ((g32 D : Nat) : Int))).heap[w.heap.size]? = some (.cells (bs (part32 s (k + 1))) 5 (0, 0))) := by
          refine (heap_setCell_same _ _ _ _ _ _ hrow.out).trans ?_
          rw [bs_set, hJ, hD, ← HV.out, HN.out, part32_set s k (by rw [← HN.out]; exact hlt)]
        have htc2 : Touch w.heap.size w0 (wr.setCell ⟨w.heap.size, J, none⟩ (.int .u8 ((g32 D : Nat) : Int))) := htc.setCell _
        clear hA hS hp hq hJ hD
        go_wp2
        go_roundw
        case rel => exact ⟨k + 1, by go_num, by omega, hr2, htc2⟩
        case measure => simp [intOf]; omega
    · have hk1 : ¬ ((k : Int) < (n : Int)) := by omega
      have hke : k = n := by omega
      subst hke
      have hcv : (convert 23 9 (.slice (some ⟨w.heap.size, 0, none⟩) k k)).run Tryd.prog wr = .ok (txt (b32L s)) wr := by
        have hr := hrow.out
        rw [HN.out, part32_all] at hr
        have := conv_byl (byl_row hr (by rw [b32L_len, ← HN.out]; unfold maxLen; omega)) 9 Tryd.underlying9
        rw [b32L_len, ← HN.out] at this
        exact this
      go_wp2
      go_ret
      exact ⟨rfl, hbl⟩
def dig32A : ByteArray := ⟨#[48, 49, 50, 51, 52, 53, 54, 55, 56, 57, 97, 98, 99, 100, 102, 103, 104, 105, 106, 107, 108, 109, 110, 112, 113, 114, 115, 118, 119, 120, 121, 122]⟩
theorem dig32_nat (n : Nat) (h : n < dig32A.size) : (dig32A[n]'h).toNat = g32 n := by
  have : ∀ y : Fin 32, (dig32A.get! y.val).toNat = g32 y.val := by decide +kernel
  rw [← Go.get_at dig32A n h]
  exact this ⟨n, h⟩
end Go.Proofs.YtceclpabdfncoaaDoor
