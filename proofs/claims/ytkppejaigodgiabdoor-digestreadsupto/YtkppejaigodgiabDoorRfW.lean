/- The document's own readers: worth, bad, common. -/
import Derived.Test.YtkppejaigodgiabDoorFm
namespace Go.Proofs.YtkppejaigodgiabDoor
open Go.RowKit
/-- A digit's value, or -1. -/
def wv (D : List Nat) (c : Nat) : Int := if D.idxOf c < D.length then ((D.idxOf c : Nat) : Int) else -1
theorem idx_at (l : List Nat) (c k : Nat) (hk : k < l.length) (h1 : ∀ j, j < k → ¬ l.getD j 0 = c) (h2 : l.getD k 0 = c) : l.idxOf c = k := by
  unfold List.idxOf
  rw [List.findIdx_eq hk]
  refine ⟨?_, fun j hj => ?_⟩
  · simp [List.getD, hk] at h2
    simp [h2]
  · have := h1 j hj
    have hj2 : j < l.length := by omega
    simp [List.getD, hj2] at this
    simp [this]
theorem idx_end (l : List Nat) (c : Nat) (h1 : ∀ j, j < l.length → ¬ l.getD j 0 = c) : ¬ l.idxOf c < l.length := by
  intro h
  have e : l[l.idxOf c]'h = c := List.getElem_idxOf h
  exact h1 _ h (by simp [List.getD, h])
set_option maxHeartbeats 1000000 in
theorem worth_any (D : ByteArray) (hD : D.size ≤ 1048576) (c : Nat) (w : World) :
    Calls Tryd.prog 62 #[.string D, .int .u8 (c : Int)] w fun e w' => e = .returned (.int .i64 (wv (tl D) c)) ∧ w' = w := by
  obtain ⟨a, ha⟩ : ∃ a : Int, a = wv (tl D) c := ⟨_, rfl⟩
  rw [← ha]
  have HA : Hid (a = wv (tl D) c) := ha
  clear ha
  go_enter Tryd.func62, Tryd.ntmps62
  go_wp2_with fail
  go_loopw [5] (fun i wr => ∃ k : Nat, i = .int .i64 (k : Int) ∧ k ≤ D.size ∧ Hid (∀ j, j < k → ¬ (tl D).getD j 0 = c) ∧ wr = w) (fun i _ => D.size - (intOf i).toNat)
  case atStart => exact ⟨0, rfl, by omega, fun j hj => by omega, rfl⟩
  case round =>
    obtain ⟨k, rfl, hk, HJ, rfl⟩ := hrel
    by_cases hlt : k < D.size
    · have hk0 : (0 : Int) ≤ (k : Int) := by omega
      have hk1 : (k : Int) < (D.size : Int) := by omega
      obtain ⟨y, hy⟩ : ∃ y, y = byt D k := ⟨_, rfl⟩
      have ix := fun (W : World) => idx9 W D k hlt
      rw [← hy] at ix
      have hyg : (tl D).getD k 0 = y := by rw [tl_get D k hlt, hy]
      have HY : Hid ((tl D).getD k 0 = y) := hyg
      clear hy hyg
      by_cases hyc : y = c
      · subst hyc
        have hE : Hid (a = (k : Int)) := by
          show _ = _
          have h1 := idx_at (tl D) y k (by rw [tl_len]; exact hlt) HJ.out HY.out
          rw [HA.out]
          unfold wv
          rw [if_pos (by rw [h1, tl_len]; exact hlt), h1]
        go_wp2_with fail
        go_ret
        exact ⟨by rw [hE.out]; rfl, rfl⟩
      · have hyc' : ¬ (y : Int) = (c : Int) := by omega
        go_wp2_with fail
        go_roundw
        case rel => exact ⟨k + 1, by go_num, by omega, (fun j hj => by
          by_cases hjk : j = k
          · rw [hjk, HY.out]; exact hyc
          · exact HJ.out j (by omega)), trivial⟩
        case measure => simp [intOf]; omega
    · have hke : k = D.size := by omega
      subst hke
      have hE : Hid (a = -1) := by
        show _ = _
        rw [HA.out]
        unfold wv
        rw [if_neg (idx_end (tl D) c (by rw [tl_len]; exact HJ.out))]
      go_wp2_with fail
      go_ret
      exact ⟨by rw [hE.out]; rfl, rfl⟩
/-- The place of the first byte that is no digit, or -1. -/
def badV (D t : List Nat) : Int := if fuL D t < t.length then ((fuL D t : Nat) : Int) else -1
set_option maxHeartbeats 1000000 in
theorem bad_any (D : ByteArray) (hD : D.size ≤ 1048576) (s : ByteArray) (hs : s.size ≤ 1152921504606846976) (w : World) :
    Calls Tryd.prog 61 #[.string D, .string s] w fun e w' => e = .returned (.int .i64 (badV (tl D) (tl s))) ∧ w' = w := by
  obtain ⟨a, ha⟩ : ∃ a : Int, a = badV (tl D) (tl s) := ⟨_, rfl⟩
  rw [← ha]
  have HA : Hid (a = badV (tl D) (tl s)) := ha
  clear ha
  go_enter Tryd.func61, Tryd.ntmps61
  go_wp2_with fail
  go_loopw [5] (fun i wr => ∃ k : Nat, i = .int .i64 (k : Int) ∧ k ≤ s.size ∧ Hid (∀ j, j < k → (tl D).idxOf (byt s j) < (tl D).length) ∧ wr = w) (fun i _ => s.size - (intOf i).toNat)
  case atStart => exact ⟨0, rfl, by omega, fun j hj => by omega, rfl⟩
  case round =>
    obtain ⟨k, rfl, hk, HJ, rfl⟩ := hrel
    by_cases hlt : k < s.size
    · have hk0 : (0 : Int) ≤ (k : Int) := by omega
      have hk1 : (k : Int) < (s.size : Int) := by omega
      obtain ⟨y, hy⟩ : ∃ y, y = byt s k := ⟨_, rfl⟩
      have ix := fun (W : World) => idx9 W s k hlt
      rw [← hy] at ix
      have HY : Hid (y = byt s k) := hy
      clear hy
      obtain ⟨v, hv⟩ : ∃ v, v = wv (tl D) y := ⟨_, rfl⟩
      have CW : Hid (∀ W, Calls Tryd.prog 62 #[.string D, .int .u8 (y : Int)] W fun e w' => e = .returned (.int .i64 v) ∧ w' = W) := fun W => by rw [hv]; exact worth_any D hD y W
      by_cases hc : (tl D).idxOf y < (tl D).length
      · have hv0 : ¬ v < 0 := by rw [hv]; unfold wv; rw [if_pos hc]; omega
        have hvn : 0 ≤ v := by omega
        clear hv
        go_wp2_with (go_at_call 62; refine (CW.out _).mono ?_; rintro e w' ⟨rfl, rfl⟩)
        go_roundw
        case rel => exact ⟨k + 1, by go_num, by omega, (fun j hj => by
          by_cases hjk : j = k
          · rw [hjk, ← HY.out]; exact hc
          · exact HJ.out j (by omega)), trivial⟩
        case measure => simp [intOf]; omega
      · have hv0 : v < 0 := by rw [hv]; unfold wv; rw [if_neg hc]; omega
        have hE : Hid (a = (k : Int)) := by
          show _ = _
          have h1 := fuL_at (tl D) s k hlt HJ.out (by rw [← HY.out]; exact hc)
          rw [HA.out]
          unfold badV
          rw [if_pos (by rw [h1, tl_len]; exact hlt), h1]
        clear hv
        go_wp2_with (go_at_call 62; refine (CW.out _).mono ?_; rintro e w' ⟨rfl, rfl⟩)
        go_ret
        exact ⟨by rw [hE.out]; rfl, rfl⟩
    · have hke : k = s.size := by omega
      subst hke
      have hE : Hid (a = -1) := by
        show _ = _
        rw [HA.out]
        unfold badV
        rw [if_neg (by rw [fuL_end (tl D) s HJ.out, tl_len]; omega)]
      go_wp2_with fail
      go_ret
      exact ⟨by rw [hE.out]; rfl, rfl⟩
end Go.Proofs.YtkppejaigodgiabDoor
