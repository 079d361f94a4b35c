/- The document's own common. -/
import Derived.Test.YtkppejaigodgiabDoorFm
namespace Go.Proofs.YtkppejaigodgiabDoor
open Go.RowKit
set_option maxRecDepth 100000 in
set_option maxHeartbeats 1000000 in
theorem common_any (a b : ByteArray) (ha : a.size ≤ 1152921504606846976) (hb : b.size ≤ 1152921504606846976) (w : World) :
    Calls Tryd.prog 51 #[.string a, .string b] w fun e w' => e = .returned (.int .i64 ((shL (tl a) (tl b) : Nat) : Int)) ∧ Below w.heap.size w w' := by
  have HL : Hid (shL (tl a) (tl b) ≤ a.size ∧ shL (tl a) (tl b) ≤ b.size) := by
    have := shL_le (tl a) (tl b)
    rw [tl_len, tl_len] at this
    exact this
  go_enter Tryd.func51, Tryd.ntmps51
  go_wp2_with fail
  go_loopw [5] (fun i wr => ∃ k : Nat, i = .int .i64 (k : Int) ∧ Hid (k ≤ shL (tl a) (tl b)) ∧ k ≤ a.size ∧ k ≤ b.size ∧ Below w.heap.size w wr) (fun i _ => a.size - (intOf i).toNat)
  case atStart => exact ⟨0, rfl, Nat.zero_le _, by omega, by omega, Below.refl _ w⟩
  case round =>
    obtain ⟨k, rfl, HK, hka, hkb, bel⟩ := hrel
    by_cases h1 : k < a.size
    · have h1' : (k : Int) < (a.size : Int) := by omega
      have hk0 : (0 : Int) ≤ (k : Int) := by omega
      by_cases h2 : k < b.size
      · have h2' : (k : Int) < (b.size : Int) := by omega
        obtain ⟨x, hx⟩ : ∃ x, x = byt a k := ⟨_, rfl⟩
        obtain ⟨y, hy⟩ : ∃ y, y = byt b k := ⟨_, rfl⟩
        have hix : ∀ W : World, (Instr.index 9 (.string a) (.int .i64 (k : Int))).run Tryd.prog W = .ok (.int .u8 (x : Int)) W := fun W => by rw [hx]; exact idx9 W a k h1
        have hiy : ∀ W : World, (Instr.index 9 (.string b) (.int .i64 (k : Int))).run Tryd.prog W = .ok (.int .u8 (y : Int)) W := fun W => by rw [hy]; exact idx9 W b k h2
        have HS : Hid ((x = y → k + 1 ≤ shL (tl a) (tl b)) ∧ (¬ x = y → shL (tl a) (tl b) = k)) := by
          have := shL_step (tl a) (tl b) k HK.out (by rw [tl_len]; exact h1) (by rw [tl_len]; exact h2)
          rw [tl_get a k h1, tl_get b k h2, ← hx, ← hy] at this
          exact this
        clear hx hy
        by_cases hxy : x = y
        · subst hxy
          have HK1 : Hid (k + 1 ≤ shL (tl a) (tl b)) := HS.out.1 rfl
          clear HS
          go_wp2
          go_quiet (fail)
          go_wp2
          go_roundw
          case rel => exact ⟨k + 1, by go_num, HK1, by omega, by omega, Below.drewN' bel _⟩
          case measure => simp [intOf]; omega
        · have hxy' : ¬ ((x : Int) = (y : Int)) := by omega
          have HE : Hid (shL (tl a) (tl b) = k) := HS.out.2 hxy
          clear HS HK
          go_wp2
          go_quiet (fail)
          go_wp2
          go_ret
          exact ⟨by rw [HE.out]; rfl, Below.drewN' bel _⟩
      · have h2' : decide ((k : Int) < (b.size : Int)) = false := by rw [decide_eq_false]; omega
        have HE : Hid (shL (tl a) (tl b) = k) := by show _ = _; have := HK.out; have := HL.out; omega
        clear HK
        go_wp2
        go_quiet (fail)
        go_wp2
        go_ret
        exact ⟨by rw [HE.out]; rfl, Below.drewN' bel _⟩
    · have h1' : decide ((k : Int) < (a.size : Int)) = false := by rw [decide_eq_false]; omega
      have HE : Hid (shL (tl a) (tl b) = k) := by show _ = _; have := HK.out; have := HL.out; omega
      clear HK
      go_wp2
      go_quiet (fail)
      go_wp2
      go_ret
      exact ⟨by rw [HE.out]; rfl, Below.drewN' bel _⟩
end Go.Proofs.YtkppejaigodgiabDoor
