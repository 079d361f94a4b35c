/- Several texts in one: NamesR, RefS, RefUn, RefPb, RefPa. -/
import Derived.Test.YtffghlbgbfhfdaaGreatDoorRd
import Derived.WalkKit
import Derived.WalkSpells
import Derived.WalkLawsBesides
import Derived.Laws.RangeAny
import Derived.Lib.OthersKept
import Derived.BigRegion
import Derived.Test.YtffghlbgbfhfdaaGreatDoorPbJ
import Derived.Laws.CopyRow
/- The document's half. -/
namespace Go.Proofs.YtffghlbgbfhfdaaGreatDoor
open Go.RowKit
set_option maxRecDepth 100000 in
set_option maxHeartbeats 1000000 in
theorem may_any (r : Nat) (w : World) :
    Calls Tryz.prog 61 #[.int .u8 (r : Int)] w fun e w' => e = .returned (.bool (mayN r)) ∧ w' = w := by
  go_enter Tryz.func61, Tryz.ntmps61
  go_wp2
  all_goals (go_ret; refine ⟨?_, rfl⟩)
  all_goals first
    | (rw [mayN_true (by omega)]; rfl)
    | (rw [mayN_false (by omega)]; rfl)
    | (show Ending.returned (Value.bool ((r : Int) == 43 || (r : Int) == 45 || (r : Int) == 46 || (r : Int) == 95 || (r : Int) == 63 || (r : Int) == 61)) = _; rw [last_eq (by omega)])
set_option maxRecDepth 100000 in
set_option maxHeartbeats 1000000 in
theorem ref_any (s : ByteArray) (w : World) :
    Calls Tryz.prog 45 #[.string s] w fun e w' => e = .returned (ans (checkN s)) ∧ w' = w := by
  obtain ⟨a, ha⟩ : ∃ a, a = checkN s := ⟨_, rfl⟩
  rw [← ha]
  by_cases h1 : 211 < s.size
  · have hE : a = (1, 0) := by rw [ha, checkN, if_pos h1]
    clear ha
    subst hE
    have h1' : (211 : Int) < (s.size : Int) := by omega
    go_enter Tryz.func45, Tryz.ntmps45
    go_wp2
    go_ret2
    exact ⟨rfl, rfl⟩
  have h1' : ¬ (211 : Int) < (s.size : Int) := by omega
  by_cases h2 : s.size = 0
  · have hE : a = (22, 0) := by rw [ha, checkN, if_neg h1, if_pos (.inl h2)]
    clear ha
    subst hE
    have h2' : (s.size : Int) = 0 := by omega
    go_enter Tryz.func45, Tryz.ntmps45
    go_wp2
    go_ret2
    exact ⟨rfl, rfl⟩
  have hpos : 0 < s.size := by omega
  by_cases h3 : byt s 0 = 46
  · have hE : a = (22, 0) := by rw [ha, checkN, if_neg h1, if_pos (.inr h3)]
    clear ha
    subst hE
    have h3' : (s[0]'hpos).toNat = 46 := by rw [byt_at]; exact h3
    clear h3
    go_enter Tryz.func45, Tryz.ntmps45
    go_wp2
    go_ret2
    exact ⟨rfl, rfl⟩
  have h3' : ¬ (s[0]'hpos).toNat = 46 := by rw [byt_at]; exact h3
  have HA : Hid (a = match badAt s s.size 0 with | some i => (22, i) | none => (0, 0)) := by
    show _ = _
    rw [ha, checkN, if_neg h1, if_neg (by omega)]
    rfl
  clear ha
  go_enter Tryz.func45, Tryz.ntmps45
  go_wp2
  · exfalso
    rename_i h
    simp only [beq_iff_eq] at h
    omega
  go_loopw [4] (fun i wr => ∃ (k fuel : Nat), i = .int .i64 (k : Int) ∧ Hid (badAt s fuel k = badAt s s.size 0) ∧ s.size ≤ k + fuel ∧ k ≤ s.size ∧ wr = w) (fun i _ => s.size - (intOf i).toNat)
  case atStart => exact ⟨0, s.size, rfl, rfl, by omega, by omega, rfl⟩
  case round =>
    obtain ⟨k, fuel, rfl, Hb, hf, hk, rfl⟩ := hrel
    by_cases hlt : k < s.size
    · obtain ⟨f, rfl⟩ : ∃ f, fuel = f + 1 := ⟨fuel - 1, by omega⟩
      have hlt' : (k : Int) < (s.size : Int) := by omega
      have hix := fun (w : World) => idx9 w s k hlt
      by_cases hm : mayN (byt s k) = true
      · go_wp2_with (go_at_call 61; refine (may_any (byt s k) _).mono ?_; rintro e w' ⟨rfl, rfl⟩; rw [hm])
        go_roundw
        case rel =>
          refine ⟨k + 1, f, by go_num, ?_, by omega, by omega, by trivial⟩
          have := Hb.out
          simp only [badAt, hlt, hm, if_true] at this
          exact this
        case measure => simp [intOf]; omega
      · have hm' : mayN (byt s k) = false := by simpa using hm
        have HE : Hid (a = (22, k)) := by
          have := Hb.out
          simp only [badAt, hlt, hm', if_true] at this
          have h2 := HA.out
          rw [← this] at h2
          exact h2
        go_wp2_with (go_at_call 61; refine (may_any (byt s k) _).mono ?_; rintro e w' ⟨rfl, rfl⟩; rw [hm'])
        go_ret2
        exact ⟨by rw [HE.out]; rfl, rfl⟩
    · have hlt' : ¬ (k : Int) < (s.size : Int) := by omega
      have HE : Hid (a = (0, 0)) := by
        have := Hb.out
        rw [badAt_end s fuel k hlt] at this
        have h2 := HA.out
        rw [← this] at h2
        exact h2
      go_wp2
      go_ret2
      exact ⟨by rw [HE.out]; rfl, rfl⟩
end Go.Proofs.YtffghlbgbfhfdaaGreatDoor

/- The reference's small ones: digit, worth, bad, slash, step. -/
namespace Go.Proofs.YtffghlbgbfhfdaaGreatDoor
open Go.RowKit
def dig32 : ByteArray := ⟨#[48, 49, 50, 51, 52, 53, 54, 55, 56, 57, 97, 98, 99, 100, 102, 103, 104, 105, 106, 107, 108, 109, 110, 112, 113, 114, 115, 118, 119, 120, 121, 122]⟩
theorem dig32_at : ∀ k : Fin 32, byt dig32 k.val = g32 k.val := by decide +kernel
theorem kn_off : ∀ c : Fin 256, (∀ j : Fin 32, ¬ g32 j.val = c.val) → kn 32 c.val = 0 := by decide +kernel
set_option maxHeartbeats 1000000 in
theorem digit_any (c : Nat) (hc : c < 256) (w : World) :
    Calls Tryz.prog 59 #[.int .u8 (c : Int)] w fun e w' => e = .returned (.bool (decide (¬ kn 32 c = 0))) ∧ w' = w := by
  obtain ⟨a, ha⟩ : ∃ a, a = decide (¬ kn 32 c = 0) := ⟨_, rfl⟩
  rw [← ha]
  have HA : Hid (a = decide (¬ kn 32 c = 0)) := ha
  clear ha
  go_enter Tryz.func59, Tryz.ntmps59
  go_wp2_with fail
  go_loopw [3] (fun i wr => ∃ k : Nat, i = .int .i64 (k : Int) ∧ k ≤ 32 ∧ Hid (∀ j, j < k → ¬ g32 j = c) ∧ wr = w) (fun i _ => 32 - (intOf i).toNat)
  case atStart => exact ⟨0, rfl, by omega, fun j hj => by omega, rfl⟩
  case round =>
    obtain ⟨k, rfl, hk, HJ, rfl⟩ := hrel
    by_cases hlt : k < 32
    · have hk0 : (0 : Int) ≤ (k : Int) := by omega
      have hk1 : (k : Int) < 32 := by omega
      obtain ⟨y, hy⟩ : ∃ y, y = g32 k := ⟨_, rfl⟩
      have ix : ∀ W : World, (Instr.index 9 (.string ⟨#[48, 49, 50, 51, 52, 53, 54, 55, 56, 57, 97, 98, 99, 100, 102, 103, 104, 105, 106, 107, 108, 109, 110, 112, 113, 114, 115, 118, 119, 120, 121, 122]⟩) (.int .i64 (k : Int))).run Tryz.prog W = .ok (.int .u8 (y : Int)) W := fun W => by
        rw [hy, ← dig32_at ⟨k, hlt⟩]; exact idx9 W dig32 k hlt
      have HY : Hid (y = g32 k) := hy
      clear hy
      by_cases hyc : y = c
      · have hE : Hid (a = true) := by
          show _ = _
          rw [HA.out, decide_eq_true_iff, ← hyc, HY.out, kn_g32 ⟨k, hlt⟩]
          omega
        subst hyc
        go_wp2_with fail
        go_ret
        exact ⟨by rw [hE.out]; rfl, rfl⟩
      · have hyc' : ((y : Int) == (c : Int)) = false := by simp; omega
        go_wp2_with fail
        exact ⟨⟨k + 1, by simp, by omega, (fun j hj => by
          by_cases hjk : j = k
          · rw [hjk, ← HY.out]; exact hyc
          · exact HJ.out j (by omega)), trivial⟩, by simp only [intOf]; omega⟩
    · have hk1 : ¬ ((k : Int) < 32) := by omega
      have hke : k = 32 := by omega
      have hE : Hid (a = false) := by
        show _ = _
        rw [HA.out, decide_eq_false_iff_not]
        exact fun h => h (kn_off ⟨c, hc⟩ fun j => HJ.out j.val (by rw [hke]; exact j.isLt))
      go_wp2_with fail
      go_ret
      exact ⟨by rw [hE.out]; rfl, rfl⟩
set_option maxHeartbeats 1000000 in
theorem worth_any (c : Nat) (hc : c < 256) (w : World) :
    Calls Tryz.prog 42 #[.string dig32, .int .u8 (c : Int)] w fun e w' => e = .returned (.int .i64 ((kn 32 c : Int) - 1)) ∧ w' = w := by
  obtain ⟨D, hD⟩ : ∃ D, D = dig32 := ⟨_, rfl⟩
  rw [← hD]
  obtain ⟨a, ha⟩ : ∃ a : Int, a = (kn 32 c : Int) - 1 := ⟨_, rfl⟩
  rw [← ha]
  have HA : Hid (a = (kn 32 c : Int) - 1) := ha
  have hDs : (D.size : Int) = 32 := by rw [hD]; rfl
  have HD : Hid (D = dig32) := hD
  clear ha hD
  go_enter Tryz.func42, Tryz.ntmps42
  go_wp2_with fail
  go_loopw [5] (fun i wr => ∃ k : Nat, i = .int .i64 (k : Int) ∧ k ≤ 32 ∧ Hid (∀ j, j < k → ¬ g32 j = c) ∧ wr = w) (fun i _ => 32 - (intOf i).toNat)
  case atStart => exact ⟨0, rfl, by omega, fun j hj => by omega, rfl⟩
  case round =>
    obtain ⟨k, rfl, hk, HJ, rfl⟩ := hrel
    by_cases hlt : k < 32
    · have hk0 : (0 : Int) ≤ (k : Int) := by omega
      have hk1 : (k : Int) < 32 := by omega
      obtain ⟨y, hy⟩ : ∃ y, y = g32 k := ⟨_, rfl⟩
      have ix : ∀ W : World, (Instr.index 9 (.string D) (.int .i64 (k : Int))).run Tryz.prog W = .ok (.int .u8 (y : Int)) W := fun W => by
        rw [hy, ← dig32_at ⟨k, hlt⟩, HD.out]; exact idx9 W dig32 k hlt
      have HY : Hid (y = g32 k) := hy
      clear hy
      by_cases hyc : y = c
      · have hE : Hid (a = (k : Int)) := by
          show _ = _
          rw [HA.out, ← hyc, HY.out, kn_g32 ⟨k, hlt⟩]
          simp
        subst hyc
        go_wp2_with fail
        go_ret
        exact ⟨by rw [hE.out]; rfl, rfl⟩
      · have hyc' : ((y : Int) == (c : Int)) = false := by simp; omega
        go_wp2_with fail
        exact ⟨⟨k + 1, by simp, by omega, (fun j hj => by
          by_cases hjk : j = k
          · rw [hjk, ← HY.out]; exact hyc
          · exact HJ.out j (by omega)), trivial⟩, by simp only [intOf]; omega⟩
    · have hk1 : ¬ ((k : Int) < 32) := by omega
      have hke : k = 32 := by omega
      have hE : Hid (a = -1) := by
        show _ = _
        rw [HA.out, kn_off ⟨c, hc⟩ fun j => HJ.out j.val (by rw [hke]; exact j.isLt)]
        rfl
      go_wp2_with fail
      go_ret
      exact ⟨by rw [hE.out]; rfl, rfl⟩
theorem drop_cons (s : ByteArray) (k : Nat) (h : k < s.size) : ∃ y : UInt8, s.data.toList.drop k = y :: s.data.toList.drop (k + 1) ∧ byt s k = y.toNat :=
  ⟨s[k]'h, List.drop_eq_getElem_cons (by rw [Array.length_toList]; exact h), (byt_at s k h).symm⟩
set_option maxHeartbeats 1000000 in
theorem bad_none (s : ByteArray) (hs : s.size ≤ 1099511627776) (hk : ∀ i, i < s.size → ¬ kn 32 (byt s i) = 0) (w : World) :
    Calls Tryz.prog 41 #[.string dig32, .string s] w fun e w' => e = .returned (.int .i64 (-1)) ∧ w' = w := by
  obtain ⟨D, hD⟩ : ∃ D, D = dig32 := ⟨_, rfl⟩
  rw [← hD]
  have CW : Hid (∀ (c : Nat), c < 256 → ∀ W, Calls Tryz.prog 42 #[.string D, .int .u8 (c : Int)] W fun e w' => e = .returned (.int .i64 ((kn 32 c : Int) - 1)) ∧ w' = W) := fun c hc W => by rw [hD]; exact worth_any c hc W
  have HK : Hid (∀ i, i < s.size → ¬ kn 32 (byt s i) = 0) := hk
  clear hD hk
  go_enter Tryz.func41, Tryz.ntmps41
  go_wp2_with fail
  go_loopw [5] (fun i wr => ∃ k : Nat, i = .int .i64 (k : Int) ∧ k ≤ s.size ∧ wr = w) (fun i _ => s.size - (intOf i).toNat)
  case atStart => exact ⟨0, rfl, by omega, rfl⟩
  case round =>
    obtain ⟨k, rfl, hk, rfl⟩ := hrel
    by_cases hlt : k < s.size
    · have hk0 : (0 : Int) ≤ (k : Int) := by omega
      have hk1 : (k : Int) < (s.size : Int) := by omega
      have hk2 : IntKind.i64.wrap ((k : Int) + 1) = (k : Int) + 1 := by rw [IntKind.wrap_i64]; omega
      obtain ⟨c, hc⟩ : ∃ c, c = byt s k := ⟨_, rfl⟩
      have ix : ∀ W : World, (Instr.index 9 (.string s) (.int .i64 (k : Int))).run Tryz.prog W = .ok (.int .u8 (c : Int)) W := fun W => by
        rw [hc]; exact idx9 W s k hlt
      obtain ⟨x, hx⟩ : ∃ x : Int, x = (kn 32 c : Int) - 1 := ⟨_, rfl⟩
      have hx0 : ¬ x < 0 := by have := HK.out k hlt; rw [← hc] at this; omega
      have C1 := CW.out c (by rw [hc]; exact byt_lt s k) wr
      rw [← hx] at C1
      clear hc hx
      go_wp2_with fail
      refine C1.mono ?_
      rintro e w' ⟨rfl, hw'⟩
      subst hw'
      go_wp2_with fail
      exact ⟨⟨k + 1, by simp, by omega, trivial⟩, by simp only [intOf]; omega⟩
    · have hk1 : ¬ ((k : Int) < (s.size : Int)) := by omega
      go_wp2_with fail
      go_ret
      exact ⟨rfl, rfl⟩
end Go.Proofs.YtffghlbgbfhfdaaGreatDoor

/- The reference's UnBase32 at thirty-two digits. -/
namespace Go.Proofs.YtffghlbgbfhfdaaGreatDoor
open Go.RowKit
theorem pow_split (k : Nat) : 2 ^ k = 256 ^ (k / 8) * 2 ^ (k % 8) := by
  have h : (256 : Nat) = 2 ^ 8 := by decide
  rw [h, ← Nat.pow_mul, ← Nat.pow_add, Nat.div_add_mod]
theorem byte_top {N k : Nat} (h : N < 2 ^ k) : N / 256 ^ (k / 8) % 256 < 2 ^ (k % 8) := by
  have h1 : N / 256 ^ (k / 8) < 2 ^ (k % 8) := Nat.div_lt_of_lt_mul (by rw [← pow_split]; exact h)
  exact Nat.lt_of_le_of_lt (Nat.mod_le _ _) h1
theorem byts_bit {N k n : Nat} (h : N < 2 ^ k) : (byts N n).set (k / 8) (N / 256 ^ (k / 8) % 256 ||| 2 ^ (k % 8)) = byts (N + 2 ^ k) n := by
  have hq := pow_split k
  have h1 : N / 256 ^ (k / 8) < 2 ^ (k % 8) := Nat.div_lt_of_lt_mul (by rw [← hq]; exact h)
  have h8 : 2 ^ (k % 8) ≤ 2 ^ 7 := Nat.pow_le_pow_right (by decide) (by omega)
  apply List.ext_getElem
  · simp [byts]
  intro j hj hj'
  have hjn : j < n := by simpa [byts] using hj'
  rw [List.getElem_set]
  by_cases hjq : k / 8 = j
  · rw [if_pos hjq]
    subst hjq
    have hp : 0 < 256 ^ (k / 8) := Nat.pow_pos (by decide)
    have e1 : (N + 2 ^ k) / 256 ^ (k / 8) = N / 256 ^ (k / 8) + 2 ^ (k % 8) := by
      rw [hq, Nat.add_mul_div_left _ _ hp]
    simp only [byts, List.getElem_map, List.getElem_range]
    rw [e1]
    have this := Nat.two_pow_add_eq_or_of_lt h1 1
    rw [Nat.mul_one] at this
    generalize N / 256 ^ (k / 8) = x at *
    generalize 2 ^ (k % 8) = y at *
    rw [Nat.mod_eq_of_lt (a := x) (b := 256) (by omega), Nat.mod_eq_of_lt (a := x + y) (b := 256) (by omega), Nat.or_comm, ← this]
    omega
  · rw [if_neg hjq]
    simp only [byts, List.getElem_map, List.getElem_range]
    by_cases hlt : j < k / 8
    · have hp : 0 < 256 ^ j := Nat.pow_pos (by decide)
      have e2 : 2 ^ k = 256 ^ j * (256 * (256 ^ (k / 8 - j - 1) * 2 ^ (k % 8))) := by
        rw [hq, show k / 8 = j + (1 + (k / 8 - j - 1)) by omega, Nat.pow_add, Nat.pow_add, Nat.pow_one]
        rw [show j + (1 + (k / 8 - j - 1)) - j - 1 = k / 8 - j - 1 by omega]
        simp [Nat.mul_assoc]
      rw [e2, Nat.add_mul_div_left _ _ hp]
      omega
    · have e3 : 2 ^ k * 2 ≤ 256 ^ j := by
        have : 2 ^ k * 2 = 2 ^ (k + 1) := by rw [Nat.pow_succ]
        rw [this, show (256 : Nat) = 2 ^ 8 by decide, ← Nat.pow_mul]
        exact Nat.pow_le_pow_right (by decide) (by omega)
      rw [Nat.div_eq_of_lt (a := N) (by omega), Nat.div_eq_of_lt (by omega)]
theorem mod_next (v j : Nat) : v % 2 ^ (j + 1) = v % 2 ^ j + 2 ^ j * (v / 2 ^ j % 2) := by
  rw [Nat.pow_succ, Nat.mod_mul]
theorem step_lt {V v i j : Nat} (hV : V < 2 ^ (5 * i)) : V + v % 2 ^ j * 2 ^ (5 * i) < 2 ^ (5 * i + j) := by
  have h1 : v % 2 ^ j < 2 ^ j := Nat.mod_lt _ (Nat.pow_pos (by decide))
  rw [Nat.pow_add]
  have h2 : (v % 2 ^ j + 1) * 2 ^ (5 * i) ≤ 2 ^ j * 2 ^ (5 * i) := Nat.mul_le_mul_right _ h1
  rw [Nat.add_mul, Nat.one_mul] at h2
  rw [Nat.mul_comm (2 ^ (5 * i))]
  omega
theorem step_bit (V v i j : Nat) : V + v % 2 ^ (j + 1) * 2 ^ (5 * i) = V + v % 2 ^ j * 2 ^ (5 * i) + (v / 2 ^ j % 2) * 2 ^ (5 * i + j) := by
  rw [mod_next, Nat.add_mul, Nat.pow_add]
  have : 2 ^ j * (v / 2 ^ j % 2) * 2 ^ (5 * i) = v / 2 ^ j % 2 * (2 ^ (5 * i) * 2 ^ j) := by
    rw [Nat.mul_comm (2 ^ j), Nat.mul_assoc, Nat.mul_comm (2 ^ j)]
  omega
attribute [local go_sem ↓] toMk
set_option maxRecDepth 100000 in
set_option maxHeartbeats 3200000 in
theorem un32R_any (s : ByteArray) (hs : s.size = 32) (hk : ∀ i, i < 32 → ¬ kn 32 (byt s i) = 0) (w : World) :
    Calls Tryz.prog 60 #[.string s] w fun e w' => ∃ g, e = .returned (.tuple #[.slice (some ⟨g, 0, none⟩) 20 20, .int .i64 0, .int .i64 0]) ∧ Below w.heap.size w w' ∧ w.heap.size ≤ g ∧ w'.heap[g]? = some (.cells (bs (byts (unN s) 21)) 5 (0, 0)) := by
  have CB := bad_none s (by omega) (fun i hi => hk i (by omega)) w
  have CW : Hid (∀ (c : Nat), c < 256 → ∀ W, Calls Tryz.prog 42 #[.string dig32, .int .u8 (c : Int)] W fun e w' => e = .returned (.int .i64 ((kn 32 c : Int) - 1)) ∧ w' = W) := fun c hc W => worth_any c hc W
  have hsI : (s.size : Int) = 32 := by omega
  obtain ⟨w0, hmk, hrow, hbel⟩ := run_mkN w 21 (by decide)
  have HR0 : Hid (w0.heap[w.heap.size]? = some (.cells (bs (byts 0 21)) 5 (0, 0))) := hrow
  have HS : Hid (s.size = 32) := hs
  have HK : Hid (∀ i, i < 32 → ¬ kn 32 (byt s i) = 0) := hk
  have HB0 : Hid (Below w.heap.size w w0) := hbel
  clear hrow hs hk hbel
  go_enter Tryz.func60, Tryz.ntmps60
  go_wp2_with fail
  refine CB.mono ?_
  rintro e w' ⟨rfl, hw'⟩
  have hw2 := hw'.symm
  subst hw2
  replace hmk : (mkR (.int .i64 21) (.int .i64 21)).run Tryz.prog w = .ok (.slice (some ⟨w.heap.size, 0, none⟩) 21 21) w0 := hmk
  go_wp2_with fail
  go_loopw [8] (fun i wr => ∃ k : Nat, i = .int .i64 (k : Int) ∧ k ≤ 32 ∧ Hid (wr.heap[w.heap.size]? = some (.cells (bs (byts (dsum (dvN s) k) 21)) 5 (0, 0))) ∧ Below w.heap.size w wr) (fun i _ => 32 - (intOf i).toNat)
  case atStart => exact ⟨0, rfl, by omega, HR0, HB0.out⟩
  case round =>
    obtain ⟨k, rfl, hk, HR, bel⟩ := hrel
    by_cases hlt : k < 32
    · have hk0 : (0 : Int) ≤ (k : Int) := by omega
      have hk1 : (k : Int) < 32 := by omega
      obtain ⟨J, hJ⟩ : ∃ J, J = 31 - k := ⟨_, rfl⟩
      have hJ1 : IntKind.i64.wrap (31 - (k : Int)) = (J : Int) := by rw [IntKind.wrap_i64]; omega
      have hJ2 : (31 : Int) - (k : Int) = (J : Int) := by omega
      obtain ⟨c, hc⟩ : ∃ c, c = byt s J := ⟨_, rfl⟩
      have ix : ∀ W : World, (Instr.index 9 (.string s) (.int .i64 (J : Int))).run Tryz.prog W = .ok (.int .u8 (c : Int)) W := fun W => by
        rw [hc]; exact idx9 W s J (by have := HS.out; omega)
      obtain ⟨v, hv⟩ : ∃ v, v = dvN s k := ⟨_, rfl⟩
      have hvv : (kn 32 c : Int) - 1 = (v : Int) := by
        have := HK.out J (by omega)
        rw [← hc] at this
        rw [hv, dvN, HS.out, show 32 - 1 - k = J by omega, ← hc]
        omega
      have hv32 : v < 32 := by
        have : kn 32 c ≤ 32 := by unfold kn; split <;> omega
        omega
      have C1 := CW.out c (by rw [hc]; exact byt_lt s J) wr
      rw [hvv] at C1
      obtain ⟨V, hV⟩ : ∃ V, V = dsum (dvN s) k := ⟨_, rfl⟩
      have hVl : V < 2 ^ (5 * k) := by
        rw [hV, Nat.pow_mul]
        exact dsum_lt (dvN s) 32 (fun i _ => by
          unfold dvN kn
          split <;> omega) k (by omega)
      have HN : Hid (dsum (dvN s) (k + 1) = V + v * 2 ^ (5 * k)) := by
        show _ = _
        rw [dsum, ← hV, ← hv, Nat.pow_mul]
      rw [← hV] at HR
      clear hJ hc hv hvv hV
      go_wp2_with fail
      refine C1.mono ?_
      rintro e w' ⟨rfl, hw'⟩
      subst hw'
      go_wp2_with fail
      go_loopw [10] (fun i wq => ∃ j : Nat, i = .int .i64 (j : Int) ∧ j ≤ 5 ∧ Hid (wq.heap[w.heap.size]? = some (.cells (bs (byts (V + v % 2 ^ j * 2 ^ (5 * k)) 21)) 5 (0, 0))) ∧ Below w.heap.size w wq) (fun i _ => 5 - (intOf i).toNat)
      case atStart => exact ⟨0, rfl, by omega, by rw [Nat.pow_zero, Nat.mod_one, Nat.zero_mul]; exact HR, bel⟩
      case round =>
        clear HR bel C1
        obtain ⟨j, rfl, hj, HQ, bel⟩ := hrel
        by_cases hjl : j < 5
        · have hj0 : (0 : Int) ≤ (j : Int) := by omega
          have hj1 : (j : Int) < 5 := by omega
          obtain ⟨P, hP⟩ : ∃ P, P = v / 2 ^ j := ⟨_, rfl⟩
          have hPI : (v : Int) / 2 ^ j = (P : Int) := by rw [hP, pow_int]
          have hand := i64_and1 P
          have HST : Hid (V + v % 2 ^ (j + 1) * 2 ^ (5 * k) = V + v % 2 ^ j * 2 ^ (5 * k) + (P % 2) * 2 ^ (5 * k + j)) := by rw [hP]; exact step_bit V v k j
          have HLT : Hid (V + v % 2 ^ j * 2 ^ (5 * k) < 2 ^ (5 * k + j)) := step_lt hVl
          obtain ⟨N, hN⟩ : ∃ N, N = V + v % 2 ^ j * 2 ^ (5 * k) := ⟨_, rfl⟩
          rw [← hN] at HST HLT HQ
          clear hP hN
          by_cases hb : P % 2 = 1
          · rw [hb] at hand HST
            replace hand : bits .and .i64 (P : Int) 1 = 1 := hand
            have hA : (5 * k + j) / 8 < 21 := by omega
            have fz : wr.frozen? ⟨w.heap.size, (5 * k + j) / 8, none⟩ = false := frozen_of_row wr _ _ _ _ HQ.out
            obtain ⟨x, hx⟩ : ∃ x, x = N / 256 ^ ((5 * k + j) / 8) % 256 := ⟨_, rfl⟩
            have cA : wr.cell? ⟨w.heap.size, (5 * k + j) / 8, none⟩ = some (.int .u8 (x : Int)) := by
              rw [cell_of_row wr _ _ _ _ _ HQ.out, bs_get _ _ (by rw [byts_len]; exact hA), byts_get _ _ _ hA, hx]
            have HX : Hid (x = N / 256 ^ ((5 * k + j) / 8) % 256) := hx
            have hx256 : x < 256 := by rw [hx]; exact Nat.mod_lt _ (by decide)
            clear hx hb
            have hor : bits .or .u8 (x : Int) (2 ^ ((5 * k + j) % 8) % 256) = ((x ||| 2 ^ ((5 * k + j) % 8) : Nat) : Int) := by
              have h8 : 2 ^ ((5 * k + j) % 8) ≤ 2 ^ 7 := Nat.pow_le_pow_right (by decide) (by omega)
              have e : ((2 : Int) ^ ((5 * k + j) % 8) % 256) = ((2 ^ ((5 * k + j) % 8) : Nat) : Int) := by
                rw [show ((2 : Int) ^ ((5 * k + j) % 8)) = ((2 ^ ((5 * k + j) % 8) : Nat) : Int) by simp]
                generalize (2 ^ ((5 * k + j) % 8) : Nat) = y at h8
                omega
              rw [e]
              exact u8_or_nat _ _ hx256 (by omega)
            have hr2 : Hid ((wr.setCell ⟨w.heap.size, (5 * k + j) / 8, none⟩ (.int .u8 ((x ||| 2 ^ ((5 * k + j) % 8) : Nat) : Int))).heap[w.heap.size]? = some (.cells (bs (byts (V + v % 2 ^ (j + 1) * 2 ^ (5 * k)) 21)) 5 (0, 0))) := by
              refine (heap_setCell_same _ _ _ _ _ _ HQ.out).trans ?_
              rw [bs_set, HX.out, byts_bit HLT.out, HST.out, Nat.one_mul]
            have HOR : Hid (bits .or .u8 (x : Int) (2 ^ ((5 * k + j) % 8) % 256) = ((x ||| 2 ^ ((5 * k + j) % 8) : Nat) : Int)) := hor
            clear hor
            go_wp2_with fail
            rw [HOR.out]
            exact ⟨⟨j + 1, by simp, by omega, hr2, bel.setCell (Nat.le_refl _) _⟩, by simp only [intOf]; omega⟩
          · have hb0 : P % 2 = 0 := by omega
            rw [hb0] at hand HST
            replace hand : bits .and .i64 (P : Int) 1 = 0 := hand
            rw [Nat.zero_mul, Nat.add_zero] at HST
            clear hb hb0
            go_wp2_with fail
            exact ⟨⟨j + 1, by simp, by omega, by rw [HST.out]; exact HQ, bel⟩, by simp only [intOf]; omega⟩
        · have hj1 : ¬ ((j : Int) < 5) := by omega
          have hje : j = 5 := by omega
          subst hje
          rw [show (2 : Nat) ^ 5 = 32 by decide, Nat.mod_eq_of_lt hv32, ← HN.out] at HQ
          go_wp2_with fail
          exact ⟨⟨k + 1, by simp, by omega, HQ, bel⟩, by simp only [intOf]; omega⟩
    · have hk1 : ¬ ((k : Int) < 32) := by omega
      have hke : k = 32 := by omega
      subst hke
      have hun : dsum (dvN s) 32 = unN s := by rw [unN, HS.out]
      rw [hun] at HR
      have hlt : unN s < 256 ^ 20 := by
        rw [← hun]
        exact Nat.lt_of_lt_of_le (dsum_lt (dvN s) 32 (fun i _ => by unfold dvN kn; split <;> omega) 32 (by omega)) (by decide)
      have c20 : wr.cell? ⟨w.heap.size, 20, none⟩ = some (.int .u8 0) := by
        rw [cell_of_row wr _ _ _ _ _ HR.out, bs_get _ _ (by rw [byts_len]; omega), byts_get _ _ _ (by omega), Nat.div_eq_of_lt hlt]
        rfl
      clear hun hlt
      go_wp2_with fail
      go_ret3
      exact ⟨w.heap.size, rfl, bel, Nat.le_refl _, HR.out⟩
end Go.Proofs.YtffghlbgbfhfdaaGreatDoor

/- The reference's ParseBase of any text. -/
namespace Go.Proofs.YtffghlbgbfhfdaaGreatDoor
open Go.RowKit
theorem unk_first (d : ByteArray) (k : Nat) (hk : k < d.size) (h0 : kn 32 (byt d k) = 0) : ∀ f i, i ≤ k → k < i + f → (∀ j, i ≤ j → j < k → ¬ kn 32 (byt d j) = 0) → unk d f i = some k
  | 0, i, h1, h2, _ => by omega
  | f + 1, i, h1, h2, h3 => by
    unfold unk
    rw [if_pos (by omega)]
    by_cases hik : i = k
    · rw [hik, if_pos h0]
    · rw [if_neg (h3 i (Nat.le_refl _) (by omega))]
      exact unk_first d k hk h0 f (i + 1) (by omega) (by omega) fun j hj hj2 => h3 j (by omega) hj2
theorem unk_no (d : ByteArray) : ∀ f i, (∀ j, i ≤ j → j < d.size → ¬ kn 32 (byt d j) = 0) → unk d f i = none
  | 0, i, _ => rfl
  | f + 1, i, h => by
    unfold unk
    by_cases hi : i < d.size
    · rw [if_pos hi, if_neg (h i (Nat.le_refl _) hi)]
      exact unk_no d f (i + 1) fun j hj hj2 => h j (by omega) hj2
    · rw [if_neg hi]
theorem unE_at (d : ByteArray) (k : Nat) (hk : k < d.size) (h0 : kn 32 (byt d k) = 0) (h : ∀ j, j < k → ¬ kn 32 (byt d j) = 0) : unE d = (10, k) := by
  have : fuN d = k := by unfold fuN; rw [unk_first d k hk h0 d.size 0 (by omega) (by omega) fun j _ hj => h j hj]; rfl
  unfold unE
  rw [this, if_pos hk]
theorem unE_not (d : ByteArray) (h : ∀ j, j < d.size → ¬ kn 32 (byt d j) = 0) : ¬ (unE d).1 = 10 := by
  have : fuN d = d.size := by unfold fuN; rw [unk_no d d.size 0 fun j _ hj => h j hj]; rfl
  unfold unE
  rw [this, if_neg (by omega)]
  split
  · simp
  split <;> simp
theorem dg_byt (s : ByteArray) (j : Nat) (h : j < min s.size 32) : byt (dgS s) j = byt s j := by
  have h1 : j < (dgS s).size := by rw [dgS_size]; exact h
  have h2 : j < s.size := by omega
  rw [← byt_at _ j h1, ← byt_at _ j h2]
  congr 1
  show ((s.extract 0 (min s.size 32)).data[j]'h1) = s.data[j]'h2
  simp [ByteArray.data_extract]
/-- A copy, kept shut. -/
def copyR (ty : Nat) (vs : Array Value) : Sem Value := Builtin.copy_ #[38, 38] ty vs
theorem toCopy (ty : Nat) (vs : Array Value) : Builtin.copy_ #[38, 38] ty vs = copyR ty vs := rfl
theorem run_copyL (w : World) (ty G g N : Nat) (nm : ByteArray) (hG : w.heap[G]? = some (.cells (lab z20 nm) 51 (0, 0))) (hg : w.heap[g]? = some (.cells (bs (byts N 21)) 5 (0, 0))) :
    (copyR ty #[.slice (some ⟨G, 0, none⟩) 20 20, .slice (some ⟨g, 0, none⟩) 20 20]).run Tryz.prog w = .ok (.int .i64 20) (w.setRow G (lab (byts N 20) nm)) := by
  have hlen : (bs (byts N 20)).toList.length = 20 := by rw [Array.length_toList, bs_size, byts_len]
  have := run_copy_row (P := Tryz.prog) w 38 38 ty 5 G 0 20 20 ⟨g, 0, none⟩ 20 20 (lab z20 nm) 51 (bs (byts N 20)).toList Tryz.underlying38 size5 hG (by rw [hlen]; rfl) (fun j v hv => by
    have hj : j < 20 := by have := (List.getElem?_eq_some_iff.1 hv).1; omega
    rw [Addr.add_mid, Nat.zero_add, cell_of_row w _ _ _ _ _ hg, bs_get _ _ (by rw [byts_len]; omega), byts_get _ _ _ (by omega)]
    rw [Array.getElem?_toList, bs_get _ _ (by rw [byts_len]; exact hj), byts_get _ _ _ hj] at hv
    exact hv) (by rw [hlen, lab_size z20 nm rfl]; omega) (fun v hv => by
    rw [bs_toList] at hv
    obtain ⟨x, _, rfl⟩ := List.mem_map.1 hv
    rfl)
  unfold copyR
  rw [this, hlen]
  have e : ((lab z20 nm).toList.take 0 ++ (bs (byts N 20)).toList ++ (lab z20 nm).toList.drop (0 + 20)).toArray = lab (byts N 20) nm := by
    apply Array.ext'
    simp [lab, bs, z20]
  rw [e]
  rfl
attribute [local go_sem] zero25
attribute [local go_sem ↓] to25s to25l to23l toBuild toCopy
set_option maxRecDepth 100000 in
set_option maxHeartbeats 3200000 in
theorem pbR_any (s : ByteArray) (w : World) :
    Calls Tryz.prog 43 #[.string s] w fun e w' => e = .returned (three (pbV s)) ∧ Below w.heap.size w w' := by
  obtain ⟨a, ha⟩ : ∃ a, a = pbV s := ⟨_, rfl⟩
  rw [← ha]
  have HA : Hid (a = pbV s) := ha
  clear ha
  have END : Hid (∀ (W : World), W.heap[w.heap.size]? = some (.cells none25 51 (0, 0)) → W.heap[w.heap.size + 1]? = some (.cells none25 51 (0, 0)) → Below w.heap.size w W → (loadR 51 (.pointer (some ⟨w.heap.size + 1, 0, none⟩))).run Tryz.prog W = .ok (.agg none25) W ∧ (storeR 51 (.pointer (some ⟨w.heap.size, 0, none⟩)) (.agg none25)).run Tryz.prog W = .ok () (W.setRow w.heap.size none25) ∧ Hid ((W.setRow w.heap.size none25).heap[w.heap.size]? = some (.cells none25 51 (0, 0)) ∧ Below w.heap.size w (W.setRow w.heap.size none25))) := fun W hr hr1 hb =>
    ⟨run_loadR25 W (w.heap.size + 1) z20 ⟨#[]⟩ hr1 rfl, run_storeR25 W w.heap.size z20 z20 ⟨#[]⟩ ⟨#[]⟩ hr rfl rfl, setRow_heap _ _ _ _ _ _ hr, below_setRow hb (Nat.le_refl _) _⟩
  obtain ⟨W0, hW0⟩ : ∃ W0, (w.alloc (.cells #[.int .u8 0, .int .u8 0, .int .u8 0, .int .u8 0, .int .u8 0, .int .u8 0, .int .u8 0, .int .u8 0, .int .u8 0, .int .u8 0, .int .u8 0, .int .u8 0, .int .u8 0, .int .u8 0, .int .u8 0, .int .u8 0, .int .u8 0, .int .u8 0, .int .u8 0, .int .u8 0, .string ⟨#[]⟩] 51)).alloc (.cells #[.int .u8 0, .int .u8 0, .int .u8 0, .int .u8 0, .int .u8 0, .int .u8 0, .int .u8 0, .int .u8 0, .int .u8 0, .int .u8 0, .int .u8 0, .int .u8 0, .int .u8 0, .int .u8 0, .int .u8 0, .int .u8 0, .int .u8 0, .int .u8 0, .int .u8 0, .int .u8 0, .string ⟨#[]⟩] 51) = W0 := ⟨_, rfl⟩
  have H0 : Hid (Below w.heap.size w W0 ∧ W0.heap[w.heap.size]? = some (.cells none25 51 (0, 0)) ∧ W0.heap[w.heap.size + 1]? = some (.cells none25 51 (0, 0))) := by
    rw [← hW0]
    refine ⟨((Below.refl _ w).alloc (Nat.le_refl _) _).alloc (by simp) _, (heap_alloc_old _ _ (h := by simp)).trans (heap_alloc_new _ _), ?_⟩
    have := heap_alloc_new (w.alloc (.cells none25 51)) (.cells none25 51)
    rw [heap_size_alloc] at this
    exact this
  by_cases h244 : 244 < s.size
  · have hE : Hid (a = (none25, 1, 0)) := by show _ = _; rw [HA.out, pbV, if_pos h244]
    have h1 : (244 : Int) < (s.size : Int) := by omega
    obtain ⟨ld, st, HF⟩ := END.out _ H0.out.2.1 H0.out.2.2 H0.out.1
    go_enter Tryz.func43, Tryz.ntmps43
    go_wp2_with fail
    exact bodyPost_ret (results_cell3 rfl _ _ w.heap.size z20 ⟨#[]⟩ rfl rfl HF.out.1) rfl ⟨by rw [hE.out]; rfl, HF.out.2⟩
  have h1 : ¬ (244 : Int) < (s.size : Int) := by omega
  have HV : Hid (pbV s = if (unE (dgS s)).1 = 10 then (none25, 21, (unE (dgS s)).2) else if s.size ≤ 32 then (none25, 3, s.size) else if ¬ byt s 32 = 45 then (none25, 24, 32) else if ¬ (checkN (s.extract 33 s.size)).1 = 0 then (none25, (checkN (s.extract 33 s.size)).1, 33 + (checkN (s.extract 33 s.size)).2) else (lab (byts (unN (dgS s)) 20) (s.extract 33 s.size), 0, 0)) := by
    show _ = _
    rw [pbV, if_neg h244]
  go_enter Tryz.func43, Tryz.ntmps43
  go_wp2_with fail
  clear hW0
  go_loopw [6] (fun i wr => ∃ k : Nat, i = .int .i64 (k : Int) ∧ k ≤ 32 ∧ k ≤ s.size ∧ Hid (∀ j, j < k → ¬ kn 32 (byt s j) = 0) ∧ wr = W0) (fun i _ => 32 - (intOf i).toNat)
  case atStart => exact ⟨0, rfl, by omega, by omega, fun j hj => by omega, rfl⟩
  case round =>
    obtain ⟨k, rfl, hk, hks, HJ, hwr⟩ := hrel
    subst hwr
    obtain ⟨ld, st, HF⟩ := END.out _ H0.out.2.1 H0.out.2.2 H0.out.1
    by_cases hlt : k < 32
    · have hk1 : (k : Int) < 32 := by omega
      have hk0 : (0 : Int) ≤ (k : Int) := by omega
      by_cases hlen : k < s.size
      · have hl1 : ¬ ((s.size : Int) ≤ (k : Int)) := by omega
        have hl2 : (k : Int) < (s.size : Int) := by omega
        have hk2 : IntKind.i64.wrap ((k : Int) + 1) = (k : Int) + 1 := by rw [IntKind.wrap_i64]; omega
        obtain ⟨c, hc⟩ : ∃ c, c = byt s k := ⟨_, rfl⟩
        have ix : ∀ W : World, (Instr.index 9 (.string s) (.int .i64 (k : Int))).run Tryz.prog W = .ok (.int .u8 (c : Int)) W := fun W => by
          rw [hc]; exact idx9 W s k hlen
        have CD := digit_any c (by rw [hc]; exact byt_lt s k) wr
        have HC : Hid (c = byt s k) := hc
        clear hc
        by_cases hkn : kn 32 c = 0
        · rw [show decide (¬ kn 32 c = 0) = false by simp [hkn]] at CD
          have hE : Hid (a = (none25, 21, k)) := by
            show _ = _
            have hd := dgS_size s
            rw [HA.out, HV.out, unE_at (dgS s) k (by omega) (by rw [dg_byt s k (by omega), ← HC.out]; exact hkn) (fun j hj => by rw [dg_byt s j (by omega)]; exact HJ.out j hj)]
            rfl
          go_wp2_with fail
          refine CD.mono ?_
          rintro e w' ⟨rfl, hw'⟩
          subst hw'
          go_wp2_with fail
          exact bodyPost_ret (results_cell3 rfl _ _ w.heap.size z20 ⟨#[]⟩ rfl rfl HF.out.1) rfl ⟨by rw [hE.out]; rfl, HF.out.2⟩
        · rw [show decide (¬ kn 32 c = 0) = true by simp [hkn]] at CD
          go_wp2_with fail
          refine CD.mono ?_
          rintro e w' ⟨rfl, hw'⟩
          subst hw'
          go_wp2_with fail
          exact ⟨⟨k + 1, by simp, by omega, by omega, (fun j hj => by
            by_cases hjk : j = k
            · rw [hjk, ← HC.out]; exact hkn
            · exact HJ.out j (by omega)), trivial⟩, by simp only [intOf]; omega⟩
      · have hl1 : (s.size : Int) ≤ (k : Int) := by omega
        have hE : Hid (a = (none25, 3, s.size)) := by
          show _ = _
          have hd := dgS_size s
          rw [HA.out, HV.out, if_neg (unE_not (dgS s) fun j hj => by rw [dg_byt s j (by omega)]; exact HJ.out j (by omega)), if_pos (by omega)]
        go_wp2_with fail
        exact bodyPost_ret (results_cell3 rfl _ _ w.heap.size z20 ⟨#[]⟩ rfl rfl HF.out.1) rfl ⟨by rw [hE.out]; rfl, HF.out.2⟩
    · have hk1 : ¬ ((k : Int) < 32) := by omega
      have hke : k = 32 := by omega
      subst hke
      have HV2 : Hid (a = if s.size ≤ 32 then (none25, 3, s.size) else if ¬ byt s 32 = 45 then (none25, 24, 32) else if ¬ (checkN (s.extract 33 s.size)).1 = 0 then (none25, (checkN (s.extract 33 s.size)).1, 33 + (checkN (s.extract 33 s.size)).2) else (lab (byts (unN (dgS s)) 20) (s.extract 33 s.size), 0, 0)) := by
        show _ = _
        have hd := dgS_size s
        rw [HA.out, HV.out, if_neg (unE_not (dgS s) fun j hj => by rw [dg_byt s j (by omega)]; exact HJ.out j (by omega))]
      by_cases h32 : s.size = 32
      · have hE : Hid (a = (none25, 3, 32)) := by show _ = _; rw [HV2.out, if_pos (by omega), h32]
        have h32' : ((s.size : Int) == 32) = true := by rw [h32]; rfl
        go_wp2_with fail
        exact bodyPost_ret (results_cell3 rfl _ _ w.heap.size z20 ⟨#[]⟩ rfl rfl HF.out.1) rfl ⟨by rw [hE.out]; rfl, HF.out.2⟩
      · have h32' : ((s.size : Int) == 32) = false := beq_eq_false_iff_ne.2 (by omega)
        rw [if_neg (by omega)] at HV2
        have hle3 : (33 : Int) ≤ (s.size : Int) := by omega
        have hle : (32 : Int) ≤ (s.size : Int) := by omega
        obtain ⟨q, hq⟩ : ∃ q, q = byt s 32 := ⟨_, rfl⟩
        have hix : ∀ W : World, (Instr.index 9 (.string s) (.int .i64 32)).run Tryz.prog W = .ok (.int .u8 (q : Int)) W := fun W => by
          rw [hq]; exact idx9 W s 32 (by omega)
        rw [← hq] at HV2
        clear hq
        by_cases hq45 : q = 45
        · rw [if_neg (by simpa using hq45)] at HV2
          subst hq45
          obtain ⟨nm, hnm⟩ : ∃ nm, nm = s.extract 33 s.size := ⟨_, rfl⟩
          have hx2 : s.extract 33 s.size = nm := hnm.symm
          have hx1 : s.extract 0 32 = dgS s := by unfold dgS; rw [show min s.size 32 = 32 by omega]
          obtain ⟨d, hd⟩ : ∃ d, d = dgS s := ⟨_, rfl⟩
          rw [← hd] at hx1
          obtain ⟨c1, hc1⟩ : ∃ c, c = (checkN nm).1 := ⟨_, rfl⟩
          obtain ⟨c2, hc2⟩ : ∃ c, c = (checkN nm).2 := ⟨_, rfl⟩
          rw [← hnm, ← hc1, ← hc2, ← hd] at HV2
          have CC : Hid (∀ W, Calls Tryz.prog 45 #[.string nm] W fun e w' => e = .returned (.tuple #[.int .i64 (c1 : Int), .int .i64 (c2 : Int)]) ∧ w' = W) := fun W => by
            have := ref_any nm W
            unfold ans at this
            rw [← hc1, ← hc2] at this
            exact this
          have hc2l : c2 ≤ 1000 := by
            rw [hc2]
            have hns : nm.size ≤ 244 := by rw [hnm, ByteArray.size_extract]; omega
            unfold checkN
            split
            · simp
            split
            · simp
            split
            · rename_i i hi
              have := badAt_lt nm _ _ _ hi
              simp; omega
            · simp
          have CU : Hid (∀ W, Calls Tryz.prog 60 #[.string d] W fun e w' => ∃ g, e = .returned (.tuple #[.slice (some ⟨g, 0, none⟩) 20 20, .int .i64 0, .int .i64 0]) ∧ Below W.heap.size W w' ∧ W.heap.size ≤ g ∧ w'.heap[g]? = some (.cells (bs (byts (unN d) 21)) 5 (0, 0))) := fun W => by
            have hds := dgS_size s
            exact un32R_any d (by rw [hd, hds]; omega) (fun i hi => by rw [hd, dg_byt s i (by omega)]; exact HJ.out i hi) W
          clear hnm hd hc1 hc2 HV HA
          go_wp2_with fail
          refine (CC.out _).mono ?_
          rintro e w' ⟨rfl, hw'⟩
          subst hw'
          by_cases hc0 : c1 = 0
          · rw [if_neg (by simpa using hc0)] at HV2
            subst hc0
            go_wp2_with fail
            refine (CU.out _).mono ?_
            rintro e W1 ⟨g, rfl, b1, hg, hrow⟩
            have zw : w.heap.size + 1 < w'.heap.size := (Array.getElem?_eq_some_iff.1 H0.out.2.2).1
            have r1 : W1.heap[w.heap.size]? = some (.cells none25 51 (0, 0)) := (b1.block _ (by omega)).trans H0.out.2.1
            have bel1 : Below w.heap.size w W1 := H0.out.1.trans (b1.mono (by omega))
            have z1 : w.heap.size < W1.heap.size := (Array.getElem?_eq_some_iff.1 r1).1
            have zg : g < W1.heap.size := (Array.getElem?_eq_some_iff.1 hrow).1
            have hbx := fun W => run_buildX W nm
            have s1 : (storeR 51 (.pointer (some ⟨W1.heap.size, 0, none⟩)) (.agg (lab z20 nm))).run Tryz.prog (W1.alloc (.cells #[.int .u8 0, .int .u8 0, .int .u8 0, .int .u8 0, .int .u8 0, .int .u8 0, .int .u8 0, .int .u8 0, .int .u8 0, .int .u8 0, .int .u8 0, .int .u8 0, .int .u8 0, .int .u8 0, .int .u8 0, .int .u8 0, .int .u8 0, .int .u8 0, .int .u8 0, .int .u8 0, .string ⟨#[]⟩] 51)) = .ok () ((W1.alloc (.cells none25 51)).setRow W1.heap.size (lab z20 nm)) := run_storeR25 (W1.alloc (.cells none25 51)) W1.heap.size z20 z20 ⟨#[]⟩ nm (heap_alloc_new _ _) rfl rfl
            obtain ⟨W2, hW2⟩ : ∃ W, W = (W1.alloc (.cells none25 51)).setRow W1.heap.size (lab z20 nm) := ⟨_, rfl⟩
            have rn : W2.heap[W1.heap.size]? = some (.cells (lab z20 nm) 51 (0, 0)) := by rw [hW2]; exact setRow_heap _ _ _ _ _ _ (heap_alloc_new _ _)
            have rg : W2.heap[g]? = some (.cells (bs (byts (unN d) 21)) 5 (0, 0)) := by rw [hW2]; exact (setRow_other _ _ _ _ (by omega)).trans ((heap_alloc_old _ _ (h := zg)).trans hrow)
            have r2 : W2.heap[w.heap.size]? = some (.cells none25 51 (0, 0)) := by rw [hW2]; exact (setRow_other _ _ _ _ (by omega)).trans ((heap_alloc_old _ _ (h := z1)).trans r1)
            have bel2 : Below w.heap.size w W2 := by rw [hW2]; exact below_setRow (bel1.alloc (by omega) _) (by omega) _
            rw [← hW2] at s1
            have cp := fun ty => run_copyL W2 ty W1.heap.size g (unN d) nm rn rg
            obtain ⟨W3, hW3⟩ : ∃ W, W = W2.setRow W1.heap.size (lab (byts (unN d) 20) nm) := ⟨_, rfl⟩
            have hl20 := byts_len (unN d) 20
            have r3 : W3.heap[W1.heap.size]? = some (.cells (lab (byts (unN d) 20) nm) 51 (0, 0)) := by rw [hW3]; exact setRow_heap _ _ _ _ _ _ rn
            have r3' : W3.heap[w.heap.size]? = some (.cells none25 51 (0, 0)) := by rw [hW3]; exact (setRow_other _ _ _ _ (by omega)).trans r2
            have bel3 : Below w.heap.size w W3 := by rw [hW3]; exact below_setRow bel2 (by omega) _
            simp only [← hW3] at cp
            have l3 := run_loadR25 W3 W1.heap.size _ nm r3 hl20
            have s3 := run_storeR25 W3 w.heap.size z20 _ ⟨#[]⟩ nm r3' rfl hl20
            have hres : Hid ((W3.setRow w.heap.size (lab (byts (unN d) 20) nm)).heap[w.heap.size]? = some (.cells (lab (byts (unN d) 20) nm) 51 (0, 0))) := setRow_heap _ _ _ _ _ _ r3'
            have bel4 : Hid (Below w.heap.size w (W3.setRow w.heap.size (lab (byts (unN d) 20) nm))) := below_setRow bel3 (Nat.le_refl _) _
            clear hW2 hW3 rn rg r2 r1 b1 bel1 bel2 bel3 z1 zg zw hg hrow r3 r3' ld st
            go_wp2_with fail
            exact bodyPost_ret (results_cell3 rfl _ _ w.heap.size _ nm hl20 rfl hres.out) rfl ⟨by rw [HV2.out]; rfl, bel4.out⟩
          · rw [if_pos hc0] at HV2
            have hc0' : ((c1 : Int) != 0) = true := by simp; omega
            have hadd : IntKind.i64.wrap ((c2 : Int) + 33) = (c2 : Int) + 33 := by rw [IntKind.wrap_i64]; omega
            go_wp2_with fail
            exact bodyPost_ret (results_cell3 rfl _ _ w.heap.size z20 ⟨#[]⟩ rfl rfl HF.out.1) rfl ⟨by rw [HV2.out]; simp [three]; exact ⟨rfl, by omega⟩, HF.out.2⟩
        · rw [if_pos hq45] at HV2
          have hq' : ((q : Int) != 45) = true := by simp; omega
          go_wp2_with fail
          exact bodyPost_ret (results_cell3 rfl _ _ w.heap.size z20 ⟨#[]⟩ rfl rfl HF.out.1) rfl ⟨by rw [HV2.out]; rfl, HF.out.2⟩
end Go.Proofs.YtffghlbgbfhfdaaGreatDoor

/- The reference's Parse of any text. -/
namespace Go.Proofs.YtffghlbgbfhfdaaGreatDoor
open Go.RowKit
attribute [local go_sem] zero25
attribute [local go_sem ↓] to25s to25l toBuild
set_option maxRecDepth 100000 in
set_option maxHeartbeats 3200000 in
theorem paR_any (s : ByteArray) (w : World) :
    Calls Tryz.prog 20 #[.string s] w fun e w' => e = .returned (three (paV s)) ∧ Below w.heap.size w w' := by
  obtain ⟨a, ha⟩ : ∃ a, a = paV s := ⟨_, rfl⟩
  rw [← ha]
  have END : Hid (∀ (W : World), W.heap[w.heap.size]? = some (.cells none25 51 (0, 0)) → W.heap[w.heap.size + 1]? = some (.cells none25 51 (0, 0)) → Below w.heap.size w W → (loadR 51 (.pointer (some ⟨w.heap.size + 1, 0, none⟩))).run Tryz.prog W = .ok (.agg none25) W ∧ (storeR 51 (.pointer (some ⟨w.heap.size, 0, none⟩)) (.agg none25)).run Tryz.prog W = .ok () (W.setRow w.heap.size none25) ∧ Hid ((W.setRow w.heap.size none25).heap[w.heap.size]? = some (.cells none25 51 (0, 0)) ∧ Below w.heap.size w (W.setRow w.heap.size none25))) := fun W hr hr1 hb =>
    ⟨run_loadR25 W (w.heap.size + 1) z20 ⟨#[]⟩ hr1 rfl, run_storeR25 W w.heap.size z20 z20 ⟨#[]⟩ ⟨#[]⟩ hr rfl rfl, setRow_heap _ _ _ _ _ _ hr, below_setRow hb (Nat.le_refl _) _⟩
  obtain ⟨W0, hW0⟩ : ∃ W0, (w.alloc (.cells #[.int .u8 0, .int .u8 0, .int .u8 0, .int .u8 0, .int .u8 0, .int .u8 0, .int .u8 0, .int .u8 0, .int .u8 0, .int .u8 0, .int .u8 0, .int .u8 0, .int .u8 0, .int .u8 0, .int .u8 0, .int .u8 0, .int .u8 0, .int .u8 0, .int .u8 0, .int .u8 0, .string ⟨#[]⟩] 51)).alloc (.cells #[.int .u8 0, .int .u8 0, .int .u8 0, .int .u8 0, .int .u8 0, .int .u8 0, .int .u8 0, .int .u8 0, .int .u8 0, .int .u8 0, .int .u8 0, .int .u8 0, .int .u8 0, .int .u8 0, .int .u8 0, .int .u8 0, .int .u8 0, .int .u8 0, .int .u8 0, .int .u8 0, .string ⟨#[]⟩] 51) = W0 := ⟨_, rfl⟩
  have H0 : Hid (Below w.heap.size w W0 ∧ W0.heap[w.heap.size]? = some (.cells none25 51 (0, 0)) ∧ W0.heap[w.heap.size + 1]? = some (.cells none25 51 (0, 0))) := by
    rw [← hW0]
    refine ⟨((Below.refl _ w).alloc (Nat.le_refl _) _).alloc (by simp) _, (heap_alloc_old _ _ (h := by simp)).trans (heap_alloc_new _ _), ?_⟩
    have := heap_alloc_new (w.alloc (.cells none25 51)) (.cells none25 51)
    rw [heap_size_alloc] at this
    exact this
  by_cases h257 : 257 < s.size
  · have hE : Hid (a = (none25, 1, 0)) := by show _ = _; rw [ha, paV, if_pos h257]
    have h1 : (257 : Int) < (s.size : Int) := by omega
    obtain ⟨ld, st, HF⟩ := END.out _ H0.out.2.1 H0.out.2.2 H0.out.1
    clear ha
    go_enter Tryz.func20, Tryz.ntmps20
    go_wp2_with fail
    exact bodyPost_ret (results_cell3 rfl _ _ w.heap.size z20 ⟨#[]⟩ rfl rfl HF.out.1) rfl ⟨by rw [hE.out]; rfl, HF.out.2⟩
  rw [paV, if_neg h257] at ha
  have h1 : ¬ (257 : Int) < (s.size : Int) := by omega
  have HA : Hid (a = match hdV s 13 0 with
    | some (e, i) => (none25, e, i)
    | none => if ¬ (pbV (s.extract 13 s.size)).2.1 = 0 then (none25, (pbV (s.extract 13 s.size)).2.1, 13 + (pbV (s.extract 13 s.size)).2.2) else ((pbV (s.extract 13 s.size)).1, 0, 0)) := ha
  clear ha
  go_enter Tryz.func20, Tryz.ntmps20
  go_wp2_with fail
  clear hW0
  go_loopw [6] (fun i wr => ∃ k : Nat, i = .int .i64 (k : Int) ∧ k ≤ 13 ∧ k ≤ s.size ∧ Hid (hdV s 13 0 = hdV s (13 - k) k) ∧ Hid (Below w.heap.size w wr ∧ wr.heap[w.heap.size]? = some (.cells none25 51 (0, 0)) ∧ wr.heap[w.heap.size + 1]? = some (.cells none25 51 (0, 0)))) (fun i _ => 13 - (intOf i).toNat)
  case atStart => exact ⟨0, rfl, by omega, by omega, rfl, H0⟩
  case round =>
    clear H0
    obtain ⟨k, rfl, hk, hks, HK, H0⟩ := hrel
    by_cases hlt : k < 13
    · have hk0 : (0 : Int) ≤ (k : Int) := by omega
      have hk1 : (k : Int) < 13 := by omega
      obtain ⟨f, hf⟩ : ∃ f, 13 - k = f + 1 := ⟨12 - k, by omega⟩
      have hun : hdV s 13 0 = if k = s.size then some (3, k) else if ¬ byt s k = byt store k then some (20, k) else hdV s f (k + 1) := by
        rw [HK.out, hf]; rfl
      by_cases hks2 : k = s.size
      · have HE : Hid (a = (none25, 3, s.size)) := by show _ = _; rw [HA.out, hun, if_pos hks2, hks2]
        have hk2 : (s.size : Int) ≤ (k : Int) := by omega
        obtain ⟨ld, st, HF⟩ := END.out _ H0.out.2.1 H0.out.2.2 H0.out.1
        clear hun hks2
        go_wp2_with fail
        exact bodyPost_ret (results_cell3 rfl _ _ w.heap.size z20 ⟨#[]⟩ rfl rfl HF.out.1) rfl ⟨by rw [HE.out]; rfl, HF.out.2⟩
      · rw [if_neg hks2] at hun
        have hk2 : ¬ ((s.size : Int) ≤ (k : Int)) := by omega
        obtain ⟨c, hc⟩ : ∃ c, c = byt store k := ⟨_, rfl⟩
        obtain ⟨c', hc'⟩ : ∃ c, c = byt s k := ⟨_, rfl⟩
        rw [← hc, ← hc'] at hun
        have i1 : ∀ W : World, (Instr.index 9 (.string s) (.int .i64 (k : Int))).run Tryz.prog W = .ok (.int .u8 (c' : Int)) W := fun W => by
          rw [hc']; exact idx9 W s k (by omega)
        have i2 : ∀ W : World, (Instr.index 9 (.string ⟨#[47, 103, 114, 97, 102, 116, 47, 115, 116, 111, 114, 101, 47]⟩) (.int .i64 (k : Int))).run Tryz.prog W = .ok (.int .u8 (c : Int)) W := fun W => by
          rw [hc]; exact idx9 W store k hlt
        clear hc hc'
        by_cases hcc : c' = c
        · have HN : Hid (hdV s 13 0 = hdV s (13 - (k + 1)) (k + 1)) := by
            show _ = _
            rw [hun, if_neg (by simpa using hcc)]
            congr 1
            omega
          subst hcc
          clear hun
          go_wp2_with fail
          go_quiet (fail)
          go_wp2
          go_roundw
          case rel => exact ⟨k + 1, by go_num, by omega, by omega, HN, ⟨Below.drewN' H0.out.1 _, H0.out.2.1, H0.out.2.2⟩⟩
          case measure => simp [intOf]; omega
        · have HE : Hid (a = (none25, 20, k)) := by show _ = _; rw [HA.out, hun, if_pos hcc]
          have hcc' : ((c' : Int) != (c : Int)) = true := by simp; omega
          clear hun
          go_wp2_with fail
          go_quiet (fail)
          obtain ⟨ld, st, HF⟩ := END.out (wr.drewN nq) H0.out.2.1 H0.out.2.2 (Below.drewN' H0.out.1 _)
          go_wp2_with fail
          exact bodyPost_ret (results_cell3 rfl _ _ w.heap.size z20 ⟨#[]⟩ rfl rfl HF.out.1) rfl ⟨by rw [HE.out]; rfl, HF.out.2⟩
    · have hk1 : ¬ ((k : Int) < 13) := by omega
      have hke : k = 13 := by omega
      subst hke
      obtain ⟨q, hq⟩ : ∃ q, q = pbV (s.extract 13 s.size) := ⟨_, rfl⟩
      have HA2 : Hid (a = if ¬ q.2.1 = 0 then (none25, q.2.1, 13 + q.2.2) else (q.1, 0, 0)) := by
        show _ = _
        rw [HA.out, HK.out, hq]
        rfl
      obtain ⟨r, hr⟩ : ∃ r, r = s.extract 13 s.size := ⟨_, rfl⟩
      have hr' : s.extract 13 s.size = r := hr.symm
      have hform := pbV_form r
      have CP : Hid (∀ W, Calls Tryz.prog 43 #[.string r] W fun e w' => e = .returned (three q) ∧ Below W.heap.size W w') := fun W => by
        rw [hq, ← hr]; exact pbR_any r W
      rw [hr, ← hq] at hform
      have h13 : (13 : Int) ≤ (s.size : Int) := by omega
      clear hq hr HA HK
      have zw : w.heap.size + 1 < wr.heap.size := (Array.getElem?_eq_some_iff.1 H0.out.2.2).1
      have HZ : Hid (w.heap.size + 1 < wr.heap.size) := zw
      clear zw
      unfold three at CP
      rcases hform with ⟨f1, h, nm, hl, _, f2, f3⟩ | ⟨f1, f2, f3⟩
      · obtain ⟨q1, q2, q3⟩ := q
        simp only at f1 f2 f3
        subst f1 f2 f3
        replace HA2 : Hid (a = (lab h nm, 0, 0)) := HA2
        go_wp2_with fail
        refine (CP.out _).mono ?_
        rintro e W1 ⟨rfl, b1⟩
        have zw := HZ.out
        have r1 : W1.heap[w.heap.size]? = some (.cells none25 51 (0, 0)) := (b1.block _ (by omega)).trans H0.out.2.1
        have z1 : w.heap.size < W1.heap.size := (Array.getElem?_eq_some_iff.1 r1).1
        have bel1 : Below w.heap.size w W1 := H0.out.1.trans (b1.mono (by omega))
        have s1 : (storeR 51 (.pointer (some ⟨W1.heap.size, 0, none⟩)) (.agg (lab h nm))).run Tryz.prog (W1.alloc (.cells #[.int .u8 0, .int .u8 0, .int .u8 0, .int .u8 0, .int .u8 0, .int .u8 0, .int .u8 0, .int .u8 0, .int .u8 0, .int .u8 0, .int .u8 0, .int .u8 0, .int .u8 0, .int .u8 0, .int .u8 0, .int .u8 0, .int .u8 0, .int .u8 0, .int .u8 0, .int .u8 0, .string ⟨#[]⟩] 51)) = .ok () ((W1.alloc (.cells none25 51)).setRow W1.heap.size (lab h nm)) := run_storeR25 (W1.alloc (.cells none25 51)) W1.heap.size z20 h ⟨#[]⟩ nm (heap_alloc_new _ _) rfl hl
        obtain ⟨W2, hW2⟩ : ∃ W, W = (W1.alloc (.cells none25 51)).setRow W1.heap.size (lab h nm) := ⟨_, rfl⟩
        have rn : W2.heap[W1.heap.size]? = some (.cells (lab h nm) 51 (0, 0)) := by rw [hW2]; exact setRow_heap _ _ _ _ _ _ (heap_alloc_new _ _)
        have r2 : W2.heap[w.heap.size]? = some (.cells none25 51 (0, 0)) := by rw [hW2]; exact (setRow_other _ _ _ _ (by omega)).trans ((heap_alloc_old _ _ (h := z1)).trans r1)
        have bel2 : Below w.heap.size w W2 := by rw [hW2]; exact below_setRow (bel1.alloc (by omega) _) (by omega) _
        rw [← hW2] at s1
        have l2 := run_loadR25 W2 W1.heap.size h nm rn hl
        have s2 := run_storeR25 W2 w.heap.size z20 h ⟨#[]⟩ nm r2 rfl hl
        have hres : Hid ((W2.setRow w.heap.size (lab h nm)).heap[w.heap.size]? = some (.cells (lab h nm) 51 (0, 0))) := setRow_heap _ _ _ _ _ _ r2
        have bel3 : Hid (Below w.heap.size w (W2.setRow w.heap.size (lab h nm))) := below_setRow bel2 (Nat.le_refl _) _
        clear hW2 rn r2 r1 b1 bel1 bel2 z1 zw
        go_wp2_with fail
        exact bodyPost_ret (results_cell3 rfl _ _ w.heap.size h nm hl rfl hres.out) rfl ⟨by rw [HA2.out]; rfl, bel3.out⟩
      · obtain ⟨q1, q2, q3⟩ := q
        simp only at f1 f2 f3
        subst f2
        replace HA2 : Hid (a = (none25, q2, 13 + q3)) := by
          show _ = _
          rw [HA2.out]
          exact if_pos f1
        have f1' : ((q2 : Int) != 0) = true := by simp; omega
        have hadd : IntKind.i64.wrap ((q3 : Int) + 13) = (q3 : Int) + 13 := by rw [IntKind.wrap_i64]; omega
        go_wp2_with fail
        refine (CP.out _).mono ?_
        rintro e W1 ⟨rfl, b1⟩
        have zw := HZ.out
        have r1 : W1.heap[w.heap.size]? = some (.cells none25 51 (0, 0)) := (b1.block _ (by omega)).trans H0.out.2.1
        have r1' : W1.heap[w.heap.size + 1]? = some (.cells none25 51 (0, 0)) := (b1.block _ (by omega)).trans H0.out.2.2
        have z1 : w.heap.size + 1 < W1.heap.size := (Array.getElem?_eq_some_iff.1 r1').1
        have bel1 : Below w.heap.size w W1 := H0.out.1.trans (b1.mono (by omega))
        have s1 : (storeR 51 (.pointer (some ⟨W1.heap.size, 0, none⟩)) (.agg none25)).run Tryz.prog (W1.alloc (.cells #[.int .u8 0, .int .u8 0, .int .u8 0, .int .u8 0, .int .u8 0, .int .u8 0, .int .u8 0, .int .u8 0, .int .u8 0, .int .u8 0, .int .u8 0, .int .u8 0, .int .u8 0, .int .u8 0, .int .u8 0, .int .u8 0, .int .u8 0, .int .u8 0, .int .u8 0, .int .u8 0, .string ⟨#[]⟩] 51)) = .ok () ((W1.alloc (.cells none25 51)).setRow W1.heap.size none25) := run_storeR25 (W1.alloc (.cells none25 51)) W1.heap.size z20 z20 ⟨#[]⟩ ⟨#[]⟩ (heap_alloc_new _ _) rfl rfl
        obtain ⟨W2, hW2⟩ : ∃ W, W = (W1.alloc (.cells none25 51)).setRow W1.heap.size none25 := ⟨_, rfl⟩
        have r2 : W2.heap[w.heap.size]? = some (.cells none25 51 (0, 0)) := by rw [hW2]; exact (setRow_other _ _ _ _ (by omega)).trans ((heap_alloc_old _ _ (h := by omega)).trans r1)
        have r2' : W2.heap[w.heap.size + 1]? = some (.cells none25 51 (0, 0)) := by rw [hW2]; exact (setRow_other _ _ _ _ (by omega)).trans ((heap_alloc_old _ _ (h := z1)).trans r1')
        have bel2 : Below w.heap.size w W2 := by rw [hW2]; exact below_setRow (bel1.alloc (by omega) _) (by omega) _
        rw [← hW2] at s1
        obtain ⟨ld, st, HF⟩ := END.out W2 r2 r2' bel2
        clear hW2 r2 r2' r1 r1' b1 bel1 bel2 z1 zw
        go_wp2_with fail
        exact bodyPost_ret (results_cell3 rfl _ _ w.heap.size z20 ⟨#[]⟩ rfl rfl HF.out.1) rfl ⟨by rw [HA2.out]; simp [three]; exact ⟨rfl, by omega⟩, HF.out.2⟩
end Go.Proofs.YtffghlbgbfhfdaaGreatDoor
