/- The document's PrintSign and number. -/
import Derived.Test.YtgimkeklnpppjaaDoorCdW
namespace Go.Proofs.YtgimkeklnpppjaaDoor
open Go.RowKit Go.Shelf
theorem psT_six (st : ByteArray) (m : Bool) (n : Nat) : ((((((⟨#[83, 116, 111, 114, 101, 58, 32]⟩ : ByteArray) ++ st) ++ ⟨#[10, 77, 97, 115, 115, 58, 32]⟩) ++ msS m) ++ ⟨#[10, 80, 114, 105, 111, 114, 105, 116, 121, 58, 32]⟩) ++ decS n) ++ ⟨#[10]⟩ = psT st m n := by
  have e1 : (⟨#[10, 77, 97, 115, 115, 58, 32]⟩ : ByteArray) = nl ++ hdS 13 := by decide
  have e2 : (⟨#[10, 80, 114, 105, 111, 114, 105, 116, 121, 58, 32]⟩ : ByteArray) = nl ++ hdS 14 := by decide
  have e3 : (⟨#[83, 116, 111, 114, 101, 58, 32]⟩ : ByteArray) = hdS 12 := by decide
  have e4 : (⟨#[10]⟩ : ByteArray) = nl := rfl
  rw [e1, e2, e3, e4]
  unfold psT lineT
  simp only [ByteArray.append_assoc]
set_option maxRecDepth 100000 in
set_option maxHeartbeats 3200000 in
theorem PrintSignR_any (st : ByteArray) (m : Bool) (pr : Int) (w : World) :
    Calls Tryd.prog 5 #[.agg (sgA st m pr)] w fun e w' => e = .returned (PsV st m pr) ∧ Below w.heap.size w w' := by
  obtain ⟨W0, hW0⟩ : ∃ W0, w.alloc (.cells (sgA st m pr) 23) = W0 := ⟨_, rfl⟩
  have b0 : Below w.heap.size w W0 := by rw [← hW0]; exact (Below.refl _ w).alloc (Nat.le_refl _) _
  have r0 : W0.heap[w.heap.size]? = some (.cells (sgA st m pr) 23 (0, 0)) := by rw [← hW0]; exact heap_alloc_new _ _
  obtain ⟨q0, q1, q2⟩ := sgA_cells r0
  have q0k : ∀ k, (W0.drewN k).cell? ⟨w.heap.size, 0, none⟩ = some (.string st) := fun k => q0
  have q2k : ∀ k, (W0.drewN k).cell? ⟨w.heap.size, 2, none⟩ = some (.int .i64 pr) := fun k => q2
  rw [← hW0] at q0 q1 q2 q0k q2k
  have HB : Hid (Below w.heap.size w W0) := b0
  have HW0 : Hid _ := hW0
  by_cases hd : st.toList = [47, 103, 114, 97, 102, 116, 47, 115, 116, 111, 114, 101]
  · have hd' : (st.toList == [47, 103, 114, 97, 102, 116, 47, 115, 116, 111, 114, 101]) = true := by rw [hd]; rfl
    by_cases h0 : pr < 0
    · have HV : Hid (PsV st m pr = .tuple #[.string ⟨#[]⟩, .int .i64 101]) := by show _ = _; unfold PsV; rw [if_neg (fun h => by have := h.2.1; omega)]
      clear hd hW0 b0 r0 q0k q2k
      unfold sgA at *
      go_enter Tryd.func5, Tryd.ntmps5
      go_wp2
      go_ret2
      rw [HW0.out]
      exact ⟨by rw [HV.out]; rfl, HB.out⟩
    by_cases h1 : 1000000 < pr
    · have HV : Hid (PsV st m pr = .tuple #[.string ⟨#[]⟩, .int .i64 101]) := by show _ = _; unfold PsV; rw [if_neg (fun h => by have := h.2.2; omega)]
      clear hd hW0 b0 r0 q0k q2k
      unfold sgA at *
      go_enter Tryd.func5, Tryd.ntmps5
      go_wp2
      go_ret2
      rw [HW0.out]
      exact ⟨by rw [HV.out]; rfl, HB.out⟩
    obtain ⟨n, rfl⟩ : ∃ n : Nat, pr = (n : Int) := ⟨pr.toNat, by omega⟩
    have hn : n ≤ 1000000 := by omega
    obtain ⟨D, hD⟩ : ∃ D, D = decS n := ⟨_, rfl⟩
    have hDz : D.size ≤ 7 := by rw [hD]; exact decS_size n hn
    have CD : Hid (∀ W, Calls Tryd.prog 9 #[.int .i64 (n : Int)] W fun e w' => e = .returned (.string D) ∧ w' = W) := fun W => by rw [hD]; exact decimal_any n hn W
    have hsz := dir_size hd
    obtain ⟨ms, hms⟩ : ∃ ms, ms = msS m := ⟨_, rfl⟩
    have hmz : ms.size = 1 := by rw [hms]; unfold msS; split <;> rfl
    obtain ⟨B1, e1⟩ : ∃ B, (⟨#[83, 116, 111, 114, 101, 58, 32]⟩ : ByteArray) ++ st = B := ⟨_, rfl⟩
    obtain ⟨B2, e2⟩ : ∃ B, B1 ++ (⟨#[10, 77, 97, 115, 115, 58, 32]⟩ : ByteArray) = B := ⟨_, rfl⟩
    obtain ⟨B3, e3⟩ : ∃ B, B2 ++ ms = B := ⟨_, rfl⟩
    obtain ⟨B4, e4⟩ : ∃ B, B3 ++ (⟨#[10, 80, 114, 105, 111, 114, 105, 116, 121, 58, 32]⟩ : ByteArray) = B := ⟨_, rfl⟩
    obtain ⟨B5, e5⟩ : ∃ B, B4 ++ D = B := ⟨_, rfl⟩
    obtain ⟨B6, e6⟩ : ∃ B, B5 ++ (⟨#[10]⟩ : ByteArray) = B := ⟨_, rfl⟩
    have s1 : B1.size = 7 + st.size := by rw [← e1, ByteArray.size_append]; rfl
    have s2 : B2.size = B1.size + 7 := by rw [← e2, ByteArray.size_append]; rfl
    have s3 : B3.size = B2.size + ms.size := by rw [← e3, ByteArray.size_append]
    have s4 : B4.size = B3.size + 11 := by rw [← e4, ByteArray.size_append]; rfl
    have s5 : B5.size = B4.size + D.size := by rw [← e5, ByteArray.size_append]
    have z1 : ¬ (9223372036854775807 < 7 + st.size) := by omega
    have z2 : ¬ (9223372036854775807 < B1.size + 7) := by omega
    have z3 : ¬ (9223372036854775807 < B2.size + ms.size) := by omega
    have z3' : ¬ (9223372036854775807 < B2.size + 1) := by omega
    have z4 : ¬ (9223372036854775807 < B3.size + 11) := by omega
    have z5 : ¬ (9223372036854775807 < B4.size + D.size) := by omega
    have z6 : ¬ (9223372036854775807 < B5.size + 1) := by omega
    have HV : Hid (PsV st m (n : Int) = .tuple #[.string B6, .int .i64 0]) := by
      show _ = _
      unfold PsV
      rw [if_pos ⟨hd, by omega, by omega⟩, ← e6, ← e5, ← e4, ← e3, ← e2, ← e1, hms, hD, psT_six]
      simp
    have HM : Hid (ms = msS m) := hms
    clear hd hW0 b0 r0 hD hDz hsz hms hmz s1 s2 s3 s4 s5 hn
    unfold sgA at *
    cases m with
    | false =>
      obtain rfl : ms = ⟨#[48]⟩ := HM.out
      go_enter Tryd.func5, Tryd.ntmps5
      go_wp2_with fail
      go_quiet ((go_at_call 9; exact Calls.quiet_of_same (CD.out _)))
      go_wp2
      go_ret2
      rw [HW0.out]
      exact ⟨by rw [HV.out]; rfl, Below.drewN' HB.out _⟩
    | true =>
      obtain rfl : ms = ⟨#[49]⟩ := HM.out
      go_enter Tryd.func5, Tryd.ntmps5
      go_wp2_with fail
      go_quiet ((go_at_call 9; exact Calls.quiet_of_same (CD.out _)))
      go_wp2
      go_ret2
      rw [HW0.out]
      exact ⟨by rw [HV.out]; rfl, Below.drewN' HB.out _⟩
  · have hd' : (st.toList == [47, 103, 114, 97, 102, 116, 47, 115, 116, 111, 114, 101]) = false := beq_off hd
    have HV : Hid (PsV st m pr = .tuple #[.string ⟨#[]⟩, .int .i64 101]) := by show _ = _; unfold PsV; rw [if_neg (fun h => hd h.1)]
    clear hd hW0 b0 r0 q0k q2k
    unfold sgA at *
    go_enter Tryd.func5, Tryd.ntmps5
    go_wp2
    go_ret2
    rw [HW0.out]
    exact ⟨by rw [HV.out]; rfl, HB.out⟩
/-- What number answers. -/
def nbV (l : List UInt8) : Nat × Bool := if l.length < 1 ∨ 9 < l.length ∨ (l.head? = some 48 ∧ 1 < l.length) then (0, false) else match Lib.decFrom 0 l with
  | some n => (n, true)
  | none => (0, false)
theorem nb_nm (l : List UInt8) : nmV l = if (nbV l).2 = true ∧ (nbV l).1 ≤ 1000000 then some (nbV l).1 else none := by
  by_cases hc : l.length < 1 ∨ 9 < l.length ∨ (l.head? = some 48 ∧ 1 < l.length)
  · have : nbV l = (0, false) := by unfold nbV; rw [if_pos hc]
    rw [this, if_neg (by simp)]
    cases hq : nmV l with
    | none => rfl
    | some n =>
      exfalso
      obtain ⟨h1, h2⟩ := nmV_some hq
      have hl := dec_len 6 n (by omega)
      have hne := dec_ne n
      rw [h2] at hl hne
      have hpos : 0 < l.length := List.length_pos_iff.2 hne
      rcases hc with h | h | ⟨h3, h4⟩
      · omega
      · omega
      · by_cases hn : n = 0
        · subst hn
          rw [Lib.decDigits, dif_pos (by omega)] at h2
          rw [← h2] at h4
          simp at h4
        · have := dec_head n (by omega)
          rw [h2] at this
          exact this h3
  · have hx : nbV l = match Lib.decFrom 0 l with | some n => (n, true) | none => (0, false) := by unfold nbV; rw [if_neg hc]
    cases hd : Lib.decFrom 0 l with
    | none =>
      rw [hd] at hx
      simp only at hx
      rw [hx, if_neg (by simp)]
      unfold nmV
      rw [hd]
      rfl
    | some n =>
      rw [hd] at hx
      simp only at hx
      rw [hx]
      by_cases hn : n ≤ 1000000
      · rw [if_pos ⟨rfl, hn⟩]
        refine nmV_of hn (dec_back l.length l n rfl (fun h => ?_) (fun h => ?_) hd)
        · rw [h] at hc
          exact hc (.inl (by simp))
        · rcases Nat.lt_or_ge 1 l.length with h1 | h1
          · exact absurd (.inr (.inr ⟨h, h1⟩)) hc
          · have : ¬ l.length < 1 := fun h2 => hc (.inl h2)
            omega
      · rw [if_neg (fun h => hn h.2)]
        unfold nmV
        rw [hd]
        simp [hn]
end Go.Proofs.YtgimkeklnpppjaaDoor
