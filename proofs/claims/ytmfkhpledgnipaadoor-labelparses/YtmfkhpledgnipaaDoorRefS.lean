/- The reference's small ones: digit, worth, bad, slash, step. -/
import Derived.Test.YtmfkhpledgnipaaDoorSpG
namespace Go.Proofs.YtmfkhpledgnipaaDoor
open Go.RowKit
def dig32 : ByteArray := ⟨#[48, 49, 50, 51, 52, 53, 54, 55, 56, 57, 97, 98, 99, 100, 102, 103, 104, 105, 106, 107, 108, 109, 110, 112, 113, 114, 115, 118, 119, 120, 121, 122]⟩
theorem dig_at : ∀ k : Fin 32, byt dig32 k.val = g32 k.val := by decide +kernel
theorem kn_off : ∀ c : Fin 256, (∀ j : Fin 32, ¬ g32 j.val = c.val) → kn 32 c.val = 0 := by decide +kernel
set_option maxHeartbeats 1000000 in
theorem digit_any (c : Nat) (hc : c < 256) (w : World) :
    Calls Tryd.prog 34 #[.int .u8 (c : Int)] w fun e w' => e = .returned (.bool (decide (¬ kn 32 c = 0))) ∧ w' = w := by
  obtain ⟨a, ha⟩ : ∃ a, a = decide (¬ kn 32 c = 0) := ⟨_, rfl⟩
  rw [← ha]
  have HA : Hid (a = decide (¬ kn 32 c = 0)) := ha
  clear ha
  go_enter Tryd.func34, Tryd.ntmps34
  go_wp2_with fail
  go_loopw [3] (fun i wr => ∃ k : Nat, i = .int .i64 (k : Int) ∧ k ≤ 32 ∧ Hid (∀ j, j < k → ¬ g32 j = c) ∧ wr = w) (fun i _ => 32 - (intOf i).toNat)
  case atStart => exact ⟨0, rfl, by omega, fun j hj => by omega, rfl⟩
  case round =>
    obtain ⟨k, rfl, hk, HJ, rfl⟩ := hrel
    by_cases hlt : k < 32
    · have hk0 : (0 : Int) ≤ (k : Int) := by omega
      have hk1 : (k : Int) < 32 := by omega
      obtain ⟨y, hy⟩ : ∃ y, y = g32 k := ⟨_, rfl⟩
      have ix : ∀ W : World, (Instr.index 9 (.string ⟨#[48, 49, 50, 51, 52, 53, 54, 55, 56, 57, 97, 98, 99, 100, 102, 103, 104, 105, 106, 107, 108, 109, 110, 112, 113, 114, 115, 118, 119, 120, 121, 122]⟩) (.int .i64 (k : Int))).run Tryd.prog W = .ok (.int .u8 (y : Int)) W := fun W => by
        rw [hy, ← dig_at ⟨k, hlt⟩]; exact idx9 W dig32 k hlt
      have HY : Hid (y = g32 k) := hy
      clear hy
      by_cases hyc : y = c
      · have hE : Hid (a = true) := by
          show _ = _
          rw [HA.out, decide_eq_true_iff, ← hyc, HY.out, kn_g32 ⟨k, hlt⟩]
          omega
        subst hyc
        go_wp2_with fail
        go_ret
        exact ⟨by rw [hE.out]; rfl, rfl⟩
      · have hyc' : ((y : Int) == (c : Int)) = false := by simp; omega
        go_wp2_with fail
        exact ⟨⟨k + 1, by simp, by omega, (fun j hj => by
          by_cases hjk : j = k
          · rw [hjk, ← HY.out]; exact hyc
          · exact HJ.out j (by omega)), trivial⟩, by simp only [intOf]; omega⟩
    · have hk1 : ¬ ((k : Int) < 32) := by omega
      have hke : k = 32 := by omega
      have hE : Hid (a = false) := by
        show _ = _
        rw [HA.out, decide_eq_false_iff_not]
        exact fun h => h (kn_off ⟨c, hc⟩ fun j => HJ.out j.val (by rw [hke]; exact j.isLt))
      go_wp2_with fail
      go_ret
      exact ⟨by rw [hE.out]; rfl, rfl⟩
set_option maxHeartbeats 1000000 in
theorem worth_any (c : Nat) (hc : c < 256) (w : World) :
    Calls Tryd.prog 47 #[.string dig32, .int .u8 (c : Int)] w fun e w' => e = .returned (.int .i64 ((kn 32 c : Int) - 1)) ∧ w' = w := by
  obtain ⟨D, hD⟩ : ∃ D, D = dig32 := ⟨_, rfl⟩
  rw [← hD]
  obtain ⟨a, ha⟩ : ∃ a : Int, a = (kn 32 c : Int) - 1 := ⟨_, rfl⟩
  rw [← ha]
  have HA : Hid (a = (kn 32 c : Int) - 1) := ha
  have hDs : (D.size : Int) = 32 := by rw [hD]; rfl
  have HD : Hid (D = dig32) := hD
  clear ha hD
  go_enter Tryd.func47, Tryd.ntmps47
  go_wp2_with fail
  go_loopw [5] (fun i wr => ∃ k : Nat, i = .int .i64 (k : Int) ∧ k ≤ 32 ∧ Hid (∀ j, j < k → ¬ g32 j = c) ∧ wr = w) (fun i _ => 32 - (intOf i).toNat)
  case atStart => exact ⟨0, rfl, by omega, fun j hj => by omega, rfl⟩
  case round =>
    obtain ⟨k, rfl, hk, HJ, rfl⟩ := hrel
    by_cases hlt : k < 32
    · have hk0 : (0 : Int) ≤ (k : Int) := by omega
      have hk1 : (k : Int) < 32 := by omega
      obtain ⟨y, hy⟩ : ∃ y, y = g32 k := ⟨_, rfl⟩
      have ix : ∀ W : World, (Instr.index 9 (.string D) (.int .i64 (k : Int))).run Tryd.prog W = .ok (.int .u8 (y : Int)) W := fun W => by
        rw [hy, ← dig_at ⟨k, hlt⟩, HD.out]; exact idx9 W dig32 k hlt
      have HY : Hid (y = g32 k) := hy
      clear hy
      by_cases hyc : y = c
      · have hE : Hid (a = (k : Int)) := by
          show _ = _
          rw [HA.out, ← hyc, HY.out, kn_g32 ⟨k, hlt⟩]
          simp
        subst hyc
        go_wp2_with fail
        go_ret
        exact ⟨by rw [hE.out]; rfl, rfl⟩
      · have hyc' : ((y : Int) == (c : Int)) = false := by simp; omega
        go_wp2_with fail
        exact ⟨⟨k + 1, by simp, by omega, (fun j hj => by
          by_cases hjk : j = k
          · rw [hjk, ← HY.out]; exact hyc
          · exact HJ.out j (by omega)), trivial⟩, by simp only [intOf]; omega⟩
    · have hk1 : ¬ ((k : Int) < 32) := by omega
      have hke : k = 32 := by omega
      have hE : Hid (a = -1) := by
        show _ = _
        rw [HA.out, kn_off ⟨c, hc⟩ fun j => HJ.out j.val (by rw [hke]; exact j.isLt)]
        rfl
      go_wp2_with fail
      go_ret
      exact ⟨by rw [hE.out]; rfl, rfl⟩
/-- The first slash from a place on, or the end. -/
def slV (s : ByteArray) (f : Nat) : Nat := if s.size ≤ f then s.size else f + (pre 47 (s.data.toList.drop f)).length
theorem slV_end (s : ByteArray) : slV s 13 = endN s := rfl
theorem drop_cons (s : ByteArray) (k : Nat) (h : k < s.size) : ∃ y : UInt8, s.data.toList.drop k = y :: s.data.toList.drop (k + 1) ∧ byt s k = y.toNat :=
  ⟨s[k]'h, List.drop_eq_getElem_cons (by rw [Array.length_toList]; exact h), (byt_at s k h).symm⟩
set_option maxHeartbeats 1000000 in
theorem slash_any (s : ByteArray) (hs : s.size ≤ 1099511627776) (f : Nat) (w : World) :
    Calls Tryd.prog 36 #[.string s, .int .i64 (f : Int)] w fun e w' => e = .returned (.int .i64 ((slV s f : Nat) : Int)) ∧ w' = w := by
  obtain ⟨a, ha⟩ : ∃ a, a = slV s f := ⟨_, rfl⟩
  rw [← ha]
  have HA : Hid (a = slV s f) := ha
  clear ha
  go_enter Tryd.func36, Tryd.ntmps36
  go_wp2_with fail
  go_loopw [5] (fun i wr => ∃ k : Nat, i = .int .i64 (k : Int) ∧ (f ≤ s.size → k ≤ s.size) ∧ f ≤ k ∧ (s.size < f → k = f) ∧ Hid (f + (pre 47 (s.data.toList.drop f)).length = k + (pre 47 (s.data.toList.drop k)).length) ∧ wr = w) (fun i _ => s.size - (intOf i).toNat)
  case atStart => exact ⟨f, rfl, id, Nat.le_refl _, fun _ => rfl, rfl, rfl⟩
  case round =>
    obtain ⟨k, rfl, hk, hfk, hkf, HJ, rfl⟩ := hrel
    by_cases hlt : k < s.size
    · have hk0 : (0 : Int) ≤ (k : Int) := by omega
      have hk1 : (k : Int) < (s.size : Int) := by omega
      have hk2 : IntKind.i64.wrap ((k : Int) + 1) = (k : Int) + 1 := by rw [IntKind.wrap_i64]; omega
      obtain ⟨y, hy, hb⟩ := drop_cons s k hlt
      obtain ⟨c, hc⟩ : ∃ c, c = y.toNat := ⟨_, rfl⟩
      have ix : ∀ W : World, (Instr.index 9 (.string s) (.int .i64 (k : Int))).run Tryd.prog W = .ok (.int .u8 (c : Int)) W := fun W => by
        rw [hc, ← hb]; exact idx9 W s k hlt
      have HP : Hid ((pre 47 (s.data.toList.drop k)).length = if (y == 47) = true then 0 else 1 + (pre 47 (s.data.toList.drop (k + 1))).length) := by
        show _ = _
        rw [hy, pre]
        split <;> simp
        omega
      have HC : Hid (c = y.toNat) := hc
      clear hy hb hc
      by_cases hyc : y = 47
      · have hc47 : c = 47 := by rw [HC.out, hyc]; rfl
        have hE : Hid (a = k) := by
          show _ = _
          rw [HA.out, slV, if_neg (by omega), HJ.out, HP.out, hyc]
          rfl
        subst hc47
        go_wp2_with fail
        go_ret
        exact ⟨by rw [hE.out]; rfl, rfl⟩
      · have hyc' : ((c : Int) == 47) = false := by
          have : c ≠ 47 := by rw [HC.out]; intro e; exact hyc (UInt8.toNat_inj.1 e)
          simp; omega
        go_wp2_with fail
        refine ⟨⟨k + 1, by simp, by omega, by omega, by omega, ?_, trivial⟩, by simp only [intOf]; omega⟩
        show _ = _
        rw [HJ.out, HP.out, if_neg (by simpa using hyc)]
        omega
    · have hk1 : ¬ ((k : Int) < (s.size : Int)) := by omega
      have hE : Hid (a = s.size) := by
        show _ = _
        rw [HA.out, slV]
        by_cases hfs : s.size ≤ f
        · rw [if_pos hfs]
        · rw [if_neg hfs, HJ.out]
          have h0 : s.data.toList.drop k = [] := List.drop_eq_nil_of_le (by rw [Array.length_toList]; show s.size ≤ k; omega)
          rw [h0]
          simp [pre]
          omega
      go_wp2_with fail
      go_ret
      exact ⟨by rw [hE.out]; rfl, rfl⟩
theorem okS_false {l : List UInt8} (h : l = [] ∨ l = [46] ∨ l = [46, 46] ∨ 255 < l.length ∨ (0 : UInt8) ∈ l) : okS l = false := by
  unfold okS
  refine decide_eq_false ?_
  rintro ⟨h1, h2, h3, h4, h5⟩
  rcases h with h | h | h | h | h
  · exact h1 h
  · exact h2 h
  · exact h3 h
  · omega
  · exact (pre_no 0 l).1 h5 0 h rfl
set_option maxHeartbeats 1000000 in
theorem step_any (s : ByteArray) (hs : s.size ≤ 1099511627776) (w : World) :
    Calls Tryd.prog 37 #[.string s] w fun e w' => e = .returned (.bool (okS s.data.toList)) ∧ w' = w := by
  have hsz : s.data.toList.length = s.size := Array.length_toList
  have hl : s.toList = s.data.toList := ByteArray.toList_eq s
  obtain ⟨a, ha⟩ : ∃ a, a = okS s.data.toList := ⟨_, rfl⟩
  rw [← ha]
  by_cases h1 : s.size = 0
  · have hE : Hid (a = false) := by show _ = _; rw [ha]; exact okS_false (.inl (List.length_eq_zero_iff.1 (by omega)))
    have h1' : ((s.size : Int) == 0) = true := by rw [h1]; rfl
    clear ha hl hsz h1
    go_enter Tryd.func37, Tryd.ntmps37
    go_wp2_with fail
    go_ret
    exact ⟨by rw [hE.out]; rfl, rfl⟩
  have h1' : ((s.size : Int) == 0) = false := beq_eq_false_iff_ne.2 (by omega)
  by_cases h2 : 255 < s.size
  · have hE : Hid (a = false) := by show _ = _; rw [ha]; exact okS_false (.inr (.inr (.inr (.inl (by omega)))))
    have h2' : (255 : Int) < (s.size : Int) := by omega
    clear ha hl hsz h1 h2
    go_enter Tryd.func37, Tryd.ntmps37
    go_wp2_with fail
    go_ret
    exact ⟨by rw [hE.out]; rfl, rfl⟩
  have h2' : ¬ (255 : Int) < (s.size : Int) := by omega
  by_cases h3 : s.data.toList = [46]
  · have hE : Hid (a = false) := by show _ = _; rw [ha]; exact okS_false (.inr (.inl h3))
    have e3 : (s.toList == [46]) = true := by rw [hl, h3]; rfl
    clear ha hl hsz h1 h2 h3
    go_enter Tryd.func37, Tryd.ntmps37
    go_wp2_with fail
    go_ret
    exact ⟨by rw [hE.out]; rfl, rfl⟩
  have e3 : (s.toList == [46]) = false := by rw [hl]; exact beq_off h3
  by_cases h4 : s.data.toList = [46, 46]
  · have hE : Hid (a = false) := by show _ = _; rw [ha]; exact okS_false (.inr (.inr (.inl h4)))
    have e4 : (s.toList == [46, 46]) = true := by rw [hl, h4]; rfl
    clear ha hl hsz h1 h2 h3 h4
    go_enter Tryd.func37, Tryd.ntmps37
    go_wp2_with fail
    go_ret
    exact ⟨by rw [hE.out]; rfl, rfl⟩
  have e4 : (s.toList == [46, 46]) = false := by rw [hl]; exact beq_off h4
  have HA : Hid (a = okS s.data.toList ∧ ¬ s.data.toList = [] ∧ ¬ s.data.toList = [46] ∧ ¬ s.data.toList = [46, 46] ∧ s.data.toList.length ≤ 255) := ⟨ha, fun e => by rw [e] at hsz; simp at hsz; omega, h3, h4, by omega⟩
  clear ha hl hsz h3 h4
  go_enter Tryd.func37, Tryd.ntmps37
  go_wp2_with fail
  go_loopw [3] (fun i wr => ∃ k : Nat, i = .int .i64 (k : Int) ∧ k ≤ s.size ∧ Hid (∀ j, j < k → ¬ byt s j = 0) ∧ wr = w) (fun i _ => s.size - (intOf i).toNat)
  case atStart => exact ⟨0, rfl, by omega, fun j hj => by omega, rfl⟩
  case round =>
    obtain ⟨k, rfl, hk, HJ, rfl⟩ := hrel
    by_cases hlt : k < s.size
    · have hk0 : (0 : Int) ≤ (k : Int) := by omega
      have hk1 : (k : Int) < (s.size : Int) := by omega
      have hk2 : IntKind.i64.wrap ((k : Int) + 1) = (k : Int) + 1 := by rw [IntKind.wrap_i64]; omega
      obtain ⟨c, hc⟩ : ∃ c, c = byt s k := ⟨_, rfl⟩
      have ix : ∀ W : World, (Instr.index 9 (.string s) (.int .i64 (k : Int))).run Tryd.prog W = .ok (.int .u8 (c : Int)) W := fun W => by
        rw [hc]; exact idx9 W s k hlt
      have HC : Hid (c = byt s k) := hc
      clear hc
      by_cases hc0 : c = 0
      · have hE : Hid (a = false) := by
          show _ = _
          rw [HA.out.1]
          refine okS_false (.inr (.inr (.inr (.inr ?_))))
          have e1 : (s[k]'hlt) = 0 := by
            apply UInt8.toNat_inj.1
            rw [byt_at s k hlt, ← HC.out, hc0]
            rfl
          rw [← e1]
          show s.data[k] ∈ s.data.toList
          simp
        subst hc0
        go_wp2_with fail
        go_ret
        exact ⟨by rw [hE.out]; rfl, rfl⟩
      · have hc0' : ((c : Int) == 0) = false := by simp; omega
        go_wp2_with fail
        exact ⟨⟨k + 1, by simp, by omega, (fun j hj => by
          by_cases hjk : j = k
          · rw [hjk, ← HC.out]; exact hc0
          · exact HJ.out j (by omega)), trivial⟩, by simp only [intOf]; omega⟩
    · have hk1 : ¬ ((k : Int) < (s.size : Int)) := by omega
      have hke : k = s.size := by omega
      have hE : Hid (a = true) := by
        show _ = _
        obtain ⟨p1, p2, p3, p4, p5⟩ := HA.out
        rw [p1]
        unfold okS
        refine decide_eq_true ⟨p2, p3, p4, p5, (pre_no 0 _).2 fun b hb e => ?_⟩
        obtain ⟨i, hi, rfl⟩ := List.getElem_of_mem hb
        have hi' : i < s.size := by simpa using hi
        refine HJ.out i (by omega) ?_
        rw [← byt_at s i hi']
        have : (s[i]'hi') = 0 := by
          rw [← e]
          show s.data[i] = s.data.toList[i]
          simp
        rw [this]; rfl
      go_wp2_with fail
      go_ret
      exact ⟨by rw [hE.out]; rfl, rfl⟩
set_option maxHeartbeats 1000000 in
theorem bad_none (s : ByteArray) (hs : s.size ≤ 1099511627776) (hk : ∀ i, i < s.size → ¬ kn 32 (byt s i) = 0) (w : World) :
    Calls Tryd.prog 46 #[.string dig32, .string s] w fun e w' => e = .returned (.int .i64 (-1)) ∧ w' = w := by
  obtain ⟨D, hD⟩ : ∃ D, D = dig32 := ⟨_, rfl⟩
  rw [← hD]
  have CW : Hid (∀ (c : Nat), c < 256 → ∀ W, Calls Tryd.prog 47 #[.string D, .int .u8 (c : Int)] W fun e w' => e = .returned (.int .i64 ((kn 32 c : Int) - 1)) ∧ w' = W) := fun c hc W => by rw [hD]; exact worth_any c hc W
  have HK : Hid (∀ i, i < s.size → ¬ kn 32 (byt s i) = 0) := hk
  clear hD hk
  go_enter Tryd.func46, Tryd.ntmps46
  go_wp2_with fail
  go_loopw [5] (fun i wr => ∃ k : Nat, i = .int .i64 (k : Int) ∧ k ≤ s.size ∧ wr = w) (fun i _ => s.size - (intOf i).toNat)
  case atStart => exact ⟨0, rfl, by omega, rfl⟩
  case round =>
    obtain ⟨k, rfl, hk, rfl⟩ := hrel
    by_cases hlt : k < s.size
    · have hk0 : (0 : Int) ≤ (k : Int) := by omega
      have hk1 : (k : Int) < (s.size : Int) := by omega
      have hk2 : IntKind.i64.wrap ((k : Int) + 1) = (k : Int) + 1 := by rw [IntKind.wrap_i64]; omega
      obtain ⟨c, hc⟩ : ∃ c, c = byt s k := ⟨_, rfl⟩
      have ix : ∀ W : World, (Instr.index 9 (.string s) (.int .i64 (k : Int))).run Tryd.prog W = .ok (.int .u8 (c : Int)) W := fun W => by
        rw [hc]; exact idx9 W s k hlt
      obtain ⟨x, hx⟩ : ∃ x : Int, x = (kn 32 c : Int) - 1 := ⟨_, rfl⟩
      have hx0 : ¬ x < 0 := by have := HK.out k hlt; rw [← hc] at this; omega
      have C1 := CW.out c (by rw [hc]; exact byt_lt s k) wr
      rw [← hx] at C1
      clear hc hx
      go_wp2_with fail
      refine C1.mono ?_
      rintro e w' ⟨rfl, hw'⟩
      subst hw'
      go_wp2_with fail
      exact ⟨⟨k + 1, by simp, by omega, trivial⟩, by simp only [intOf]; omega⟩
    · have hk1 : ¬ ((k : Int) < (s.size : Int)) := by omega
      go_wp2_with fail
      go_ret
      exact ⟨rfl, rfl⟩
end Go.Proofs.YtmfkhpledgnipaaDoor
