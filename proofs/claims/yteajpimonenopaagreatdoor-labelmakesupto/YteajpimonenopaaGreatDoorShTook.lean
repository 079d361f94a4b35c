import Derived.Test.YteajpimonenopaaGreatDoorShJc
namespace Go.Proofs.YteajpimonenopaaGreatDoor.Sha
open Go.RowKit
set_option maxRecDepth 100000 in
set_option maxHeartbeats 1000000 in
/-- A Write of nothing. -/
theorem write_nil (sn : List Nat) (hsn : sn.length = 8) (g : Nat) (st rest : List Nat) (n : Nat) (hst : st.length = 8) (hrs : rest.length = 64) (hn : n ≤ 1152921504606846976) (w : World)
    (hS : Hid (∀ j, j < 8 → w.cell? ⟨4, j, none⟩ = some (.int .u32 ((sn.getD j 0 : Nat) : Int)))) (hh : Hid (w.heap[g]? = some (.cells (hs st rest n) 66 (0, 0)))) :
    Calls Tryz.prog 37 #[.pointer (some ⟨g, 0, none⟩), .slice none 0 0] w fun e w' => e = .returned (.int .i64 0) ∧
      Hid (w'.heap[g]? = some (.cells (hs (begS sn st n) rest n) 66 (0, 0))) ∧ Touch g w w' := by
  have cn : w.cell? ⟨g, 72, none⟩ = some (.int .i64 (n : Int)) := by rw [cell_of_row w _ _ _ _ _ hh.out, hs_len _ _ _ hst hrs]
  have hn2 : ¬ (1152921504606846976 - (n : Int) < 0) := by omega
  have bl : (begS sn st n).length = 8 := by unfold begS; split <;> assumption
  go_enter Tryz.func37, Tryz.ntmps37
  go_wp2_with fail
  refine (begin_any g sn st rest n hsn hst hrs w hS hh).mono ?_
  rintro e W1 ⟨rfl, row1, tch1⟩
  have cn1 : W1.cell? ⟨g, 72, none⟩ = some (.int .i64 (n : Int)) := by rw [cell_of_row W1 _ _ _ _ _ row1.out, hs_len _ _ _ bl hrs]
  have fz1 : ∀ i, W1.frozen? ⟨g, i, none⟩ = false := fun i => frozen_of_row W1 _ i _ _ row1.out
  have hal : Tryz.prog.arrayLen 64 = 64 := by kernel_rfl
  have hu00 : (0 : Int) ≤ (n : Int) % 64 := by omega
  have hu1 : (n : Int) % 64 ≤ 64 := by omega
  have hu2 : ((n : Int) % 64).toNat = n % 64 := by omega
  have hu3 : ¬ (64 = n % 64) := by omega
  have row2 : Hid ((W1.setCell ⟨g, 72, none⟩ (Value.int IntKind.i64 (n : Int))).heap[g]? = some (.cells (hs (begS sn st n) rest n) 66 (0, 0))) := (heap_setCell_same _ _ _ _ _ _ row1.out).trans (by rw [hs_set_len _ _ _ _ bl hrs])
  have tch2 : Touch g w (W1.setCell ⟨g, 72, none⟩ (Value.int IntKind.i64 (n : Int))) := tch1.setCell _
  have hcn := fun (w : World) (o m c ty : Nat) => run_copy_nil (P := Tryz.prog) w 22 22 ty 5 ⟨g, o, none⟩ m c Tryz.underlying22 (by kernel_rfl)
  by_cases hu : n % 64 = 0
  · have hu' : (n : Int) % 64 = 0 := by omega
    go_wp2
    revert row2 tch2
    generalize W1.setCell ⟨g, 72, none⟩ (Value.int IntKind.i64 (n : Int)) = W2
    intro row2 tch2
    go_loopw [1] (fun v wr => v = .slice none 0 0 ∧ wr = W2) (fun _ _ => 0)
    case atStart => exact ⟨rfl, rfl⟩
    case round =>
      obtain ⟨rfl, rfl⟩ := hrel
      go_wp2
      go_ret
      exact ⟨rfl, row2, tch2⟩
  · have hu' : 0 < (n : Int) % 64 := by omega
    have hu4 : (n : Int) % 64 + 0 < 64 := by omega
    have hu5 : (n : Int) % 64 < 64 := by omega
    go_wp2
    go_ret
    exact ⟨rfl, row2, tch2⟩
set_option maxRecDepth 100000 in
/-- Blocks behind blocks. -/
theorem absN_add (ks st x : List Nat) (q : Nat) : ∀ k, absN ks st x (q + k) = absN ks (absN ks st x q) (x.drop (64 * q)) k
  | 0 => rfl
  | k + 1 => by
    rw [← Nat.add_assoc, absN, absN_add ks st x q k, absN, List.drop_drop, show 64 * q + 64 * k = 64 * (q + k) by omega]
set_option maxRecDepth 100000 in
theorem absN_pre (ks st m d : List Nat) : ∀ k, 64 * k ≤ m.length → absN ks st (m ++ d) k = absN ks st m k
  | 0, _ => rfl
  | k + 1, h => by
    rw [absN, absN, absN_pre ks st m d k (by omega), List.drop_append_of_le_length (by omega), List.take_append_of_le_length (by rw [List.length_drop]; omega)]
/-- The hasher at block g has taken the message m. -/
def Took (ks sn m : List Nat) (g : Nat) (w : World) : Prop :=
  ∃ st rest : List Nat, st.length = 8 ∧ rest.length = 64 ∧ Wrd st ∧ Byt rest ∧ w.heap[g]? = some (.cells (hs st rest m.length) 66 (0, 0)) ∧ begS sn st m.length = absN ks sn m (m.length / 64) ∧ rest.take (m.length % 64) = m.drop (64 * (m.length / 64))
/-- A slice of bytes that is no part of block g. -/
def Bts (g : Nat) (v : Value) (d : List Nat) (w : World) : Prop :=
  (v = .slice none 0 0 ∧ d = []) ∨ ∃ b off cap, v = .slice (some ⟨b, off, none⟩) d.length cap ∧ d.length ≤ cap ∧ cap ≤ maxLen ∧ b ≠ g ∧ b < w.heap.size ∧ ∀ j, j < d.length → w.cell? ⟨b, off + j, none⟩ = some (.int .u8 ((d.getD j 0 : Nat) : Int))
set_option maxRecDepth 100000 in
theorem write_took (ks sn : List Nat) (hm : MixOK ks) (hsn : sn.length = 8) (hsnw : Wrd sn) (g : Nat) (m d : List Nat) (hdb : Byt d) (hn : m.length + d.length ≤ 1152921504606846976) (v : Value) (w : World) (hv : Bts g v d w) (hg : g ≠ 5) (hg1 : 5 < w.heap.size)
    (hS : Hid (∀ j, j < 8 → w.cell? ⟨4, j, none⟩ = some (.int .u32 ((sn.getD j 0 : Nat) : Int)))) (hK : Hid (∀ j, j < 64 → w.cell? ⟨5, j, none⟩ = some (.int .u32 ((ks.getD j 0 : Nat) : Int)))) (hT : Took ks sn m g w) :
    Calls Tryz.prog 37 #[.pointer (some ⟨g, 0, none⟩), v] w fun e w' => e = .returned (.int .i64 0) ∧ Took ks sn (m ++ d) g w' ∧ Touch g w w' := by
  obtain ⟨st, rest, hst, hrs, hsw, hrb, hh, hbeg, hrt⟩ := hT
  have bl : (begS sn st m.length).length = 8 := by unfold begS; split <;> assumption
  have bw : Wrd (begS sn st m.length) := by unfold begS; split <;> assumption
  rcases hv with ⟨rfl, rfl⟩ | ⟨b, off, cap, rfl, hcap, hmax, hbg, hbl, hd⟩
  · refine (write_nil sn hsn g st rest m.length hst hrs (by simpa using hn) w hS hh).mono fun e w' ⟨he, hr, ht⟩ => ⟨he, ?_, ht⟩
    rw [List.append_nil]
    refine ⟨_, rest, bl, hrs, bw, hrb, hr.out, ?_, hrt⟩
    rw [← hbeg]; unfold begS; split <;> rfl
  by_cases hu : m.length % 64 = 0
  · refine (write_edge ks sn hm hsn hsnw g st rest m.length hst hrs hsw d hdb hn hu b off cap hcap hmax w hbg hbl hg hg1 hS hK hd hh).mono fun e w' ⟨he, hr, ht⟩ => ⟨he, ?_, ht⟩
    have hdrop : (m ++ d).drop (64 * (m.length / 64)) = d := List.drop_left' (by omega)
    have hq : (m ++ d).length / 64 = m.length / 64 + d.length / 64 := by rw [List.length_append]; omega
    have hmod : (m ++ d).length % 64 = d.length % 64 := by rw [List.length_append]; omega
    have e1 : absN ks sn (m ++ d) ((m ++ d).length / 64) = absN ks (begS sn st m.length) d (d.length / 64) := by
      rw [hq, absN_add, hdrop, absN_pre ks sn m d _ (by omega), hbeg]
    have lrest : (d.drop (64 * (d.length / 64))).length = d.length % 64 := by rw [List.length_drop]; omega
    have hr' := hr.out
    rw [← List.length_append] at hr'
    refine ⟨_, _, absN_len _ _ _ bl _, ?_, absN_wrd _ _ _ bw _, ?_, hr', ?_, ?_⟩
    rotate_left 2
    · by_cases h0 : (m ++ d).length = 0
      · have hd0 : d.length = 0 := by rw [List.length_append] at h0; omega
        rw [e1, hd0, h0]
        have hm0 : m.length = 0 := by rw [List.length_append] at h0; omega
        simp [begS, hm0, absN]
      · unfold begS at e1 ⊢
        rw [if_neg h0, e1]
    · rw [hmod, List.take_left' lrest, hq, show 64 * (m.length / 64 + d.length / 64) = 64 * (m.length / 64) + 64 * (d.length / 64) by omega, ← List.drop_drop, hdrop]
    · rw [List.length_append, lrest, List.length_drop, hrs]; omega
    · intro x hx
      rcases List.mem_append.1 hx with h | h
      · exact hdb x (List.mem_of_mem_drop h)
      · exact hrb x (List.mem_of_mem_drop h)
  have hst2 : begS sn st m.length = st := by unfold begS; rw [if_neg (by intro h; rw [h] at hu; exact hu (by decide))]
  rw [hst2] at hbeg
  have lm : (m.drop (64 * (m.length / 64))).length = m.length % 64 := by rw [List.length_drop]; omega
  by_cases hsh : m.length % 64 + d.length < 64
  · refine (write_short sn hsn g st rest m.length hst hrs d hn (by omega) hsh b off cap w hbg hbl hS hd hh).mono fun e w' ⟨he, hr, ht⟩ => ⟨he, ?_, ht⟩
    have hq : (m ++ d).length / 64 = m.length / 64 := by rw [List.length_append]; omega
    have hmod : (m ++ d).length % 64 = m.length % 64 + d.length := by rw [List.length_append]; omega
    have hr' := hr.out
    rw [← List.length_append] at hr'
    refine ⟨st, _, hst, ?_, hsw, ?_, hr', ?_, ?_⟩
    rotate_left 2
    · rw [hq, absN_pre ks sn m d _ (by omega), ← hbeg]
      unfold begS
      rw [if_neg (by rw [List.length_append]; omega)]
    · rw [hmod, hq, hrt, List.drop_append_of_le_length (by omega)]
      exact List.take_left' (by rw [List.length_append, lm])
    · simp only [List.length_append, List.length_take, List.length_drop, hrs]; omega
    · intro x hx
      rcases List.mem_append.1 hx with h | h
      · rcases List.mem_append.1 h with h | h
        · exact hrb x (List.mem_of_mem_take h)
        · exact hdb x h
      · exact hrb x (List.mem_of_mem_drop h)
  · have hF : Calls Tryz.prog 37 #[.pointer (some ⟨g, 0, none⟩), .slice (some ⟨b, off, none⟩) d.length cap] w fun e w' => e = .returned (.int .i64 0) ∧
      Hid (w'.heap[g]? = some (.cells (hs (absN ks (mixN ks st (rest.take (m.length % 64) ++ d.take (64 - m.length % 64))) (d.drop (64 - m.length % 64)) ((d.drop (64 - m.length % 64)).length / 64)) ((d.drop (64 - m.length % 64)).drop (64 * ((d.drop (64 - m.length % 64)).length / 64)) ++ (rest.take (m.length % 64) ++ d.take (64 - m.length % 64)).drop ((d.drop (64 - m.length % 64)).length % 64)) (m.length + d.length)) 66 (0, 0))) ∧ Touch g w w' := by
      by_cases hce : cap = 64 - m.length % 64
      · exact write_fill_end ks sn hm hsn g st rest m.length hst hrs hsw hrb d hdb hn (by omega) (by omega) b off cap hce hcap w hbg hbl hg hg1 hK hS hd hh
      · exact write_fill ks sn hm hsn g st rest m.length hst hrs hsw hrb d hdb hn (by omega) (by omega) b off cap hce hcap hmax w hbg hbl hg hg1 hK hS hd hh
    refine hF.mono fun e w' ⟨he, hr, ht⟩ => ⟨he, ?_, ht⟩
    obtain ⟨u, hu2⟩ : ∃ u, u = 64 - m.length % 64 := ⟨_, rfl⟩
    rw [← hu2] at hr
    have hul : u ≤ d.length := by omega
    have lu : (d.drop u).length = d.length - u := List.length_drop
    have hq : (m ++ d).length / 64 = m.length / 64 + 1 + (d.drop u).length / 64 := by rw [List.length_append, lu]; omega
    have hmod : (m ++ d).length % 64 = (d.drop u).length % 64 := by rw [List.length_append, lu]; omega
    have hdrop : (m ++ d).drop (64 * (m.length / 64 + 1)) = d.drop u := by
      rw [show 64 * (m.length / 64 + 1) = m.length + u by omega, ← List.drop_drop, List.drop_left]
    have hblk : ((m ++ d).drop (64 * (m.length / 64))).take 64 = rest.take (m.length % 64) ++ d.take u := by
      rw [hrt, List.drop_append_of_le_length (by omega), List.take_append, lm, List.take_of_length_le (by omega), ← hu2]
    have e1 : absN ks sn (m ++ d) ((m ++ d).length / 64) = absN ks (mixN ks st (rest.take (m.length % 64) ++ d.take u)) (d.drop u) ((d.drop u).length / 64) := by
      rw [hq, absN_add, hdrop, absN, hblk, absN_pre ks sn m d _ (by omega), ← hbeg]
    have lrest : ((d.drop u).drop (64 * ((d.drop u).length / 64))).length = (d.drop u).length % 64 := by rw [List.length_drop]; omega
    have hr' := hr.out
    rw [← List.length_append] at hr'
    refine ⟨_, _, absN_len _ _ _ (mixN_len _ _ _) _, ?_, absN_wrd _ _ _ (mixN_wrd _ _ _) _, ?_, hr', ?_, ?_⟩
    rotate_left 2
    · rw [e1]
      unfold begS
      rw [if_neg (by rw [List.length_append]; omega)]
    · rw [hmod, List.take_left' lrest, hq, show 64 * (m.length / 64 + 1 + (d.drop u).length / 64) = 64 * (m.length / 64 + 1) + 64 * ((d.drop u).length / 64) by omega, ← List.drop_drop, hdrop]
    · simp only [List.length_append, List.length_drop, List.length_take, hrs]; omega
    · intro x hx
      rcases List.mem_append.1 hx with h | h
      · exact hdb x (List.mem_of_mem_drop (List.mem_of_mem_drop h))
      · rcases List.mem_append.1 (List.mem_of_mem_drop h) with h | h
        · exact hrb x (List.mem_of_mem_take h)
        · exact hdb x (List.mem_of_mem_take h)
end Go.Proofs.YteajpimonenopaaGreatDoor.Sha
