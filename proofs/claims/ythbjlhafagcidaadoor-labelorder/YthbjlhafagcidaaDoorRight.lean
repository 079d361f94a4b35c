/- right: a name, by the chapter's words. -/
import Derived.Test.YthbjlhafagcidaaDoorNames
namespace Go.Proofs.YthbjlhafagcidaaDoor
open Go.RowKit
set_option maxRecDepth 100000 in
set_option maxHeartbeats 3200000 in
theorem right_any (s : ByteArray) (w : World) :
    Calls Tryd.prog 6 #[.string s] w fun e w' => e = .returned (.bool (decide ((checkN s).1 = 0))) ∧ w' = w := by
  obtain ⟨a, ha⟩ : ∃ a, a = (checkN s).1 := ⟨_, rfl⟩
  rw [← ha]
  by_cases h2 : s.size = 0
  · have hE : a = 22 := by rw [ha, checkN, if_neg (by omega), if_pos (.inl h2)]
    clear ha
    subst hE
    have h2' : (s.size : Int) = 0 := by omega
    go_enter Tryd.func6, Tryd.ntmps6
    go_wp2
    go_ret
    exact ⟨rfl, rfl⟩
  have hpos : 0 < s.size := by omega
  have h2' : ¬ ((s.size : Int) < 1) := by omega
  by_cases h1 : 211 < s.size
  · have hE : a = 1 := by rw [ha, checkN, if_pos h1]
    clear ha
    subst hE
    have h1' : (211 : Int) < (s.size : Int) := by omega
    go_enter Tryd.func6, Tryd.ntmps6
    go_wp2
    go_ret
    exact ⟨rfl, rfl⟩
  have h1' : ¬ (211 : Int) < (s.size : Int) := by omega
  by_cases h3 : byt s 0 = 46
  · have hE : a = 22 := by rw [ha, checkN, if_neg h1, if_pos (.inr h3)]
    clear ha
    subst hE
    have h3' : (s[0]'hpos).toNat = 46 := by rw [byt_at]; exact h3
    clear h3
    go_enter Tryd.func6, Tryd.ntmps6
    go_wp2
    go_ret
    exact ⟨rfl, rfl⟩
  have h3' : ¬ (s[0]'hpos).toNat = 46 := by rw [byt_at]; exact h3
  have HA : Hid (a = match badAt s s.size 0 with | some _ => 22 | none => 0) := by
    show _ = _
    rw [ha, checkN, if_neg h1, if_neg (by omega)]
    cases badAt s s.size 0 <;> rfl
  clear ha
  go_enter Tryd.func6, Tryd.ntmps6
  go_wp2_with fail
  all_goals try (exfalso; omega)
  go_loopw [3] (fun i wr => ∃ (k fuel : Nat), i = .int .i64 (k : Int) ∧ Hid (badAt s fuel k = badAt s s.size 0) ∧ s.size ≤ k + fuel ∧ k ≤ s.size ∧ wr = w) (fun i _ => s.size - (intOf i).toNat)
  case atStart => exact ⟨0, s.size, rfl, rfl, by omega, by omega, rfl⟩
  case round =>
    obtain ⟨k, fuel, rfl, Hb, hf, hk, rfl⟩ := hrel
    by_cases hlt : k < s.size
    · obtain ⟨f, rfl⟩ : ∃ f, fuel = f + 1 := ⟨fuel - 1, by omega⟩
      have hlt' : (k : Int) < (s.size : Int) := by omega
      have hix := fun (w : World) => idx9 w s k hlt
      obtain ⟨c, hc⟩ : ∃ c, c = byt s k := ⟨_, rfl⟩
      rw [← hc] at hix
      have hc256 : c < 256 := by rw [hc]; exact byt_lt _ _
      have HC : Hid (c = byt s k) := hc
      clear hc
      have hcl : (0 ≤ c ∧ c ≤ 42) ∨ c = 43 ∨ c = 44 ∨ c = 45 ∨ c = 46 ∨ c = 47 ∨ (48 ≤ c ∧ c ≤ 57) ∨ (58 ≤ c ∧ c ≤ 60) ∨ c = 61 ∨ c = 62 ∨ c = 63 ∨ c = 64 ∨ (65 ≤ c ∧ c ≤ 90) ∨ (91 ≤ c ∧ c ≤ 94) ∨ c = 95 ∨ c = 96 ∨ (97 ≤ c ∧ c ≤ 122) ∨ (123 ≤ c ∧ c ≤ 255) := by omega
      rcases hcl with h | h | h | h | h | h | h | h | h | h | h | h | h | h | h | h | h | h
      · have g97 : ¬ ((97 : Int) ≤ (c : Int)) := by omega
        have l122 : (c : Int) ≤ 122 := by omega
        have g65 : ¬ ((65 : Int) ≤ (c : Int)) := by omega
        have l90 : (c : Int) ≤ 90 := by omega
        have g48 : ¬ ((48 : Int) ≤ (c : Int)) := by omega
        have l57 : (c : Int) ≤ 57 := by omega
        have e43 : ((c : Int) != 43) = true := by simp; omega
        have e45 : ((c : Int) != 45) = true := by simp; omega
        have e46 : ((c : Int) != 46) = true := by simp; omega
        have e95 : ((c : Int) != 95) = true := by simp; omega
        have e63 : ((c : Int) != 63) = true := by simp; omega
        have e61 : ((c : Int) != 61) = true := by simp; omega
        have hm : mayN (byt s k) = false := by rw [← HC.out]; exact mayN_false (by omega)
        have HE : Hid (a = 22) := by
          have := Hb.out
          simp only [badAt, hlt, hm, if_true] at this
          have h2 := HA.out
          rw [← this] at h2
          exact h2
        go_wp2
        go_ret
        exact ⟨by rw [HE.out]; rfl, rfl⟩
      · subst h
        have hm : mayN (byt s k) = true := by rw [← HC.out]; exact mayN_true (by omega)
        go_wp2
        go_roundw
        case rel =>
          refine ⟨k + 1, f, by go_num, ?_, by omega, by omega, by trivial⟩
          have := Hb.out
          simp only [badAt, hlt, hm, if_true] at this
          exact this
        case measure => simp [intOf]; omega
      · subst h
        have hm : mayN (byt s k) = false := by rw [← HC.out]; exact mayN_false (by omega)
        have HE : Hid (a = 22) := by
          have := Hb.out
          simp only [badAt, hlt, hm, if_true] at this
          have h2 := HA.out
          rw [← this] at h2
          exact h2
        go_wp2
        go_ret
        exact ⟨by rw [HE.out]; rfl, rfl⟩
      · subst h
        have hm : mayN (byt s k) = true := by rw [← HC.out]; exact mayN_true (by omega)
        go_wp2
        go_roundw
        case rel =>
          refine ⟨k + 1, f, by go_num, ?_, by omega, by omega, by trivial⟩
          have := Hb.out
          simp only [badAt, hlt, hm, if_true] at this
          exact this
        case measure => simp [intOf]; omega
      · subst h
        have hm : mayN (byt s k) = true := by rw [← HC.out]; exact mayN_true (by omega)
        go_wp2
        go_roundw
        case rel =>
          refine ⟨k + 1, f, by go_num, ?_, by omega, by omega, by trivial⟩
          have := Hb.out
          simp only [badAt, hlt, hm, if_true] at this
          exact this
        case measure => simp [intOf]; omega
      · subst h
        have hm : mayN (byt s k) = false := by rw [← HC.out]; exact mayN_false (by omega)
        have HE : Hid (a = 22) := by
          have := Hb.out
          simp only [badAt, hlt, hm, if_true] at this
          have h2 := HA.out
          rw [← this] at h2
          exact h2
        go_wp2
        go_ret
        exact ⟨by rw [HE.out]; rfl, rfl⟩
      · have g97 : ¬ ((97 : Int) ≤ (c : Int)) := by omega
        have l122 : (c : Int) ≤ 122 := by omega
        have g65 : ¬ ((65 : Int) ≤ (c : Int)) := by omega
        have l90 : (c : Int) ≤ 90 := by omega
        have g48 : (48 : Int) ≤ (c : Int) := by omega
        have l57 : (c : Int) ≤ 57 := by omega
        have e43 : ((c : Int) != 43) = true := by simp; omega
        have e45 : ((c : Int) != 45) = true := by simp; omega
        have e46 : ((c : Int) != 46) = true := by simp; omega
        have e95 : ((c : Int) != 95) = true := by simp; omega
        have e63 : ((c : Int) != 63) = true := by simp; omega
        have e61 : ((c : Int) != 61) = true := by simp; omega
        have hm : mayN (byt s k) = true := by rw [← HC.out]; exact mayN_true (by omega)
        go_wp2
        go_roundw
        case rel =>
          refine ⟨k + 1, f, by go_num, ?_, by omega, by omega, by trivial⟩
          have := Hb.out
          simp only [badAt, hlt, hm, if_true] at this
          exact this
        case measure => simp [intOf]; omega
      · have g97 : ¬ ((97 : Int) ≤ (c : Int)) := by omega
        have l122 : (c : Int) ≤ 122 := by omega
        have g65 : ¬ ((65 : Int) ≤ (c : Int)) := by omega
        have l90 : (c : Int) ≤ 90 := by omega
        have g48 : (48 : Int) ≤ (c : Int) := by omega
        have l57 : ¬ ((c : Int) ≤ 57) := by omega
        have e43 : ((c : Int) != 43) = true := by simp; omega
        have e45 : ((c : Int) != 45) = true := by simp; omega
        have e46 : ((c : Int) != 46) = true := by simp; omega
        have e95 : ((c : Int) != 95) = true := by simp; omega
        have e63 : ((c : Int) != 63) = true := by simp; omega
        have e61 : ((c : Int) != 61) = true := by simp; omega
        have hm : mayN (byt s k) = false := by rw [← HC.out]; exact mayN_false (by omega)
        have HE : Hid (a = 22) := by
          have := Hb.out
          simp only [badAt, hlt, hm, if_true] at this
          have h2 := HA.out
          rw [← this] at h2
          exact h2
        go_wp2
        go_ret
        exact ⟨by rw [HE.out]; rfl, rfl⟩
      · subst h
        have hm : mayN (byt s k) = true := by rw [← HC.out]; exact mayN_true (by omega)
        go_wp2
        go_roundw
        case rel =>
          refine ⟨k + 1, f, by go_num, ?_, by omega, by omega, by trivial⟩
          have := Hb.out
          simp only [badAt, hlt, hm, if_true] at this
          exact this
        case measure => simp [intOf]; omega
      · subst h
        have hm : mayN (byt s k) = false := by rw [← HC.out]; exact mayN_false (by omega)
        have HE : Hid (a = 22) := by
          have := Hb.out
          simp only [badAt, hlt, hm, if_true] at this
          have h2 := HA.out
          rw [← this] at h2
          exact h2
        go_wp2
        go_ret
        exact ⟨by rw [HE.out]; rfl, rfl⟩
      · subst h
        have hm : mayN (byt s k) = true := by rw [← HC.out]; exact mayN_true (by omega)
        go_wp2
        go_roundw
        case rel =>
          refine ⟨k + 1, f, by go_num, ?_, by omega, by omega, by trivial⟩
          have := Hb.out
          simp only [badAt, hlt, hm, if_true] at this
          exact this
        case measure => simp [intOf]; omega
      · subst h
        have hm : mayN (byt s k) = false := by rw [← HC.out]; exact mayN_false (by omega)
        have HE : Hid (a = 22) := by
          have := Hb.out
          simp only [badAt, hlt, hm, if_true] at this
          have h2 := HA.out
          rw [← this] at h2
          exact h2
        go_wp2
        go_ret
        exact ⟨by rw [HE.out]; rfl, rfl⟩
      · have g97 : ¬ ((97 : Int) ≤ (c : Int)) := by omega
        have l122 : (c : Int) ≤ 122 := by omega
        have g65 : (65 : Int) ≤ (c : Int) := by omega
        have l90 : (c : Int) ≤ 90 := by omega
        have g48 : (48 : Int) ≤ (c : Int) := by omega
        have l57 : ¬ ((c : Int) ≤ 57) := by omega
        have e43 : ((c : Int) != 43) = true := by simp; omega
        have e45 : ((c : Int) != 45) = true := by simp; omega
        have e46 : ((c : Int) != 46) = true := by simp; omega
        have e95 : ((c : Int) != 95) = true := by simp; omega
        have e63 : ((c : Int) != 63) = true := by simp; omega
        have e61 : ((c : Int) != 61) = true := by simp; omega
        have hm : mayN (byt s k) = true := by rw [← HC.out]; exact mayN_true (by omega)
        go_wp2
        go_roundw
        case rel =>
          refine ⟨k + 1, f, by go_num, ?_, by omega, by omega, by trivial⟩
          have := Hb.out
          simp only [badAt, hlt, hm, if_true] at this
          exact this
        case measure => simp [intOf]; omega
      · have g97 : ¬ ((97 : Int) ≤ (c : Int)) := by omega
        have l122 : (c : Int) ≤ 122 := by omega
        have g65 : (65 : Int) ≤ (c : Int) := by omega
        have l90 : ¬ ((c : Int) ≤ 90) := by omega
        have g48 : (48 : Int) ≤ (c : Int) := by omega
        have l57 : ¬ ((c : Int) ≤ 57) := by omega
        have e43 : ((c : Int) != 43) = true := by simp; omega
        have e45 : ((c : Int) != 45) = true := by simp; omega
        have e46 : ((c : Int) != 46) = true := by simp; omega
        have e95 : ((c : Int) != 95) = true := by simp; omega
        have e63 : ((c : Int) != 63) = true := by simp; omega
        have e61 : ((c : Int) != 61) = true := by simp; omega
        have hm : mayN (byt s k) = false := by rw [← HC.out]; exact mayN_false (by omega)
        have HE : Hid (a = 22) := by
          have := Hb.out
          simp only [badAt, hlt, hm, if_true] at this
          have h2 := HA.out
          rw [← this] at h2
          exact h2
        go_wp2
        go_ret
        exact ⟨by rw [HE.out]; rfl, rfl⟩
      · subst h
        have hm : mayN (byt s k) = true := by rw [← HC.out]; exact mayN_true (by omega)
        go_wp2
        go_roundw
        case rel =>
          refine ⟨k + 1, f, by go_num, ?_, by omega, by omega, by trivial⟩
          have := Hb.out
          simp only [badAt, hlt, hm, if_true] at this
          exact this
        case measure => simp [intOf]; omega
      · subst h
        have hm : mayN (byt s k) = false := by rw [← HC.out]; exact mayN_false (by omega)
        have HE : Hid (a = 22) := by
          have := Hb.out
          simp only [badAt, hlt, hm, if_true] at this
          have h2 := HA.out
          rw [← this] at h2
          exact h2
        go_wp2
        go_ret
        exact ⟨by rw [HE.out]; rfl, rfl⟩
      · have g97 : (97 : Int) ≤ (c : Int) := by omega
        have l122 : (c : Int) ≤ 122 := by omega
        have g65 : (65 : Int) ≤ (c : Int) := by omega
        have l90 : ¬ ((c : Int) ≤ 90) := by omega
        have g48 : (48 : Int) ≤ (c : Int) := by omega
        have l57 : ¬ ((c : Int) ≤ 57) := by omega
        have e43 : ((c : Int) != 43) = true := by simp; omega
        have e45 : ((c : Int) != 45) = true := by simp; omega
        have e46 : ((c : Int) != 46) = true := by simp; omega
        have e95 : ((c : Int) != 95) = true := by simp; omega
        have e63 : ((c : Int) != 63) = true := by simp; omega
        have e61 : ((c : Int) != 61) = true := by simp; omega
        have hm : mayN (byt s k) = true := by rw [← HC.out]; exact mayN_true (by omega)
        go_wp2
        go_roundw
        case rel =>
          refine ⟨k + 1, f, by go_num, ?_, by omega, by omega, by trivial⟩
          have := Hb.out
          simp only [badAt, hlt, hm, if_true] at this
          exact this
        case measure => simp [intOf]; omega
      · have g97 : (97 : Int) ≤ (c : Int) := by omega
        have l122 : ¬ ((c : Int) ≤ 122) := by omega
        have g65 : (65 : Int) ≤ (c : Int) := by omega
        have l90 : ¬ ((c : Int) ≤ 90) := by omega
        have g48 : (48 : Int) ≤ (c : Int) := by omega
        have l57 : ¬ ((c : Int) ≤ 57) := by omega
        have e43 : ((c : Int) != 43) = true := by simp; omega
        have e45 : ((c : Int) != 45) = true := by simp; omega
        have e46 : ((c : Int) != 46) = true := by simp; omega
        have e95 : ((c : Int) != 95) = true := by simp; omega
        have e63 : ((c : Int) != 63) = true := by simp; omega
        have e61 : ((c : Int) != 61) = true := by simp; omega
        have hm : mayN (byt s k) = false := by rw [← HC.out]; exact mayN_false (by omega)
        have HE : Hid (a = 22) := by
          have := Hb.out
          simp only [badAt, hlt, hm, if_true] at this
          have h2 := HA.out
          rw [← this] at h2
          exact h2
        go_wp2
        go_ret
        exact ⟨by rw [HE.out]; rfl, rfl⟩
    · have hlt' : ¬ (k : Int) < (s.size : Int) := by omega
      have HE : Hid (a = 0) := by
        have := Hb.out
        rw [badAt_end s fuel k hlt] at this
        have h2 := HA.out
        rw [← this] at h2
        exact h2
      go_wp2
      go_ret
      exact ⟨by rw [HE.out]; rfl, rfl⟩
end Go.Proofs.YthbjlhafagcidaaDoor
