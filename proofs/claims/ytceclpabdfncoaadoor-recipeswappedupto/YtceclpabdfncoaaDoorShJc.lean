/- Several texts in one: ShPad, ShPadL, ShPadE, ShSum. -/
import Derived.Test.YtceclpabdfncoaaDoorShJb
import Derived.BigRegion
namespace Go.Proofs.YtceclpabdfncoaaDoor.Sha
open Go.RowKit
def padR (rest : List Nat) (u : Nat) : List Nat := rest.take u ++ 128 :: List.replicate (63 - u) 0
set_option maxRecDepth 100000 in
theorem padR_len (rest : List Nat) (u : Nat) (hrs : rest.length = 64) (hu : u < 64) : (padR rest u).length = 64 := by simp [padR, hrs]; omega
/-- The message's length, laid into the last eight bytes. -/
def lenk (r : List Nat) (n : Nat) : Nat → List Nat
  | 0 => r
  | k + 1 => (lenk r n k).set (56 + k) (8 * n / 2 ^ (56 - 8 * k) % 256)
set_option maxRecDepth 100000 in
theorem lenk_len (r : List Nat) (n : Nat) : ∀ k, (lenk r n k).length = r.length
  | 0 => rfl
  | k + 1 => by simp [lenk, lenk_len r n k]
set_option maxRecDepth 100000 in
theorem hs_set_rest (st rest : List Nat) (n i b : Nat) (hst : st.length = 8) (hrs : rest.length = 64) (hi : i < 64) : (hs st rest n).setIfInBounds (8 + i) (Value.int .u8 (b : Int)) = hs st (rest.set i b) n := by
  simp only [hs, List.setIfInBounds_toArray]
  rw [List.set_append_right _ _ (by simp [hst]), List.set_append_left _ _ (by simp [hst, hrs, hi])]
  simp [hst, List.map_set]
set_option maxRecDepth 100000 in
theorem padR_byt (rest : List Nat) (u : Nat) (hb : Byt rest) : Byt (padR rest u) := by
  intro x hx
  simp only [padR, List.mem_append, List.mem_cons] at hx
  rcases hx with h | h | h
  · exact hb x (List.mem_of_mem_take h)
  · omega
  · have : x = 0 := List.eq_of_mem_replicate h
    omega
set_option maxRecDepth 100000 in
theorem lenk_byt (r : List Nat) (n : Nat) (hb : Byt r) : ∀ k, Byt (lenk r n k)
  | 0 => hb
  | k + 1 => byt_set (lenk_byt r n hb k) _ _ (Nat.mod_lt _ (by decide))
set_option maxRecDepth 100000 in
theorem eight (l : List Nat) (h : l.length = 8) : ∃ a b c d e f g i, l = [a, b, c, d, e, f, g, i] := by
  match l, h with
  | [a, b, c, d, e, f, g, i], _ => exact ⟨a, b, c, d, e, f, g, i, rfl⟩
def MixOK (ks : List Nat) : Prop := ∀ (st blk : List Nat), st.length = 8 → Wrd st → Byt blk → ∀ (b off cap : Nat), 64 ≤ cap → cap ≤ maxLen → ∀ (w : World), b < w.heap.size → 4 < w.heap.size →
    Hid (∀ j, j < 64 → w.cell? ⟨b, off + j, none⟩ = some (.int .u8 ((blk.getD j 0 : Nat) : Int))) → Hid (∀ j, j < 64 → w.cell? ⟨4, j, none⟩ = some (.int .u32 ((ks.getD j 0 : Nat) : Int))) →
    Calls Tryd.prog 58 #[.agg (ws st), .slice (some ⟨b, off, none⟩) 64 cap] w fun e w' => e = .returned (.agg (ws (mixN ks st blk))) ∧ Below w.heap.size w w'
set_option maxRecDepth 100000 in
set_option maxHeartbeats 1000000 in
theorem pad_short (ks : List Nat) (hm : MixOK ks) (g : Nat) (st rest : List Nat) (n : Nat) (hst : st.length = 8) (hrs : rest.length = 64) (hn : n ≤ 1152921504606846976) (hsw : Wrd st) (hrb : Byt rest) (w : World) (hg : g ≠ 4) (hgl : g < w.heap.size) (hg1 : 4 < w.heap.size) (hK : Hid (∀ j, j < 64 → w.cell? ⟨4, j, none⟩ = some (.int .u32 ((ks.getD j 0 : Nat) : Int)))) (hh : Hid (w.heap[g]? = some (.cells (hs st rest n) 99 (0, 0)))) (hu : n % 64 < 56) :
    Calls Tryd.prog 59 #[.pointer (some ⟨g, 0, none⟩)] w fun e w' => e = .returned (.tuple #[]) ∧ Hid (w'.heap[g]? = some (.cells (hs (mixN ks st (lenk (padR rest (n % 64)) n 8)) (lenk (padR rest (n % 64)) n 8) n) 99 (0, 0))) ∧ Touch g w w' := by
  have cn : w.cell? ⟨g, 72, none⟩ = some (.int .i64 (n : Int)) := by rw [cell_of_row w _ _ _ _ _ hh.out, hs_len _ _ _ hst hrs]
  have cu : w.cell? ⟨g, 8 + n % 64, none⟩ = some (.int .u8 ((rest.getD (n % 64) 0 : Nat) : Int)) := by rw [cell_of_row w _ _ _ _ _ hh.out, hs_rest _ _ _ hst hrs _ (by omega)]
  have fz : ∀ i, w.frozen? ⟨g, i, none⟩ = false := fun i => frozen_of_row w _ i _ _ hh.out
  obtain ⟨W2, hcl, row2, tch2⟩ : ∃ W2, (∀ ty, (Builtin.clear_ #[23] ty #[.slice (some ⟨g, 8 + (n % 64 + 1), none⟩) (63 - n % 64) (63 - n % 64)]).run Tryd.prog (w.setCell ⟨g, 8 + n % 64, none⟩ (.int .u8 128)) = .ok (.tuple #[]) W2) ∧ Hid (W2.heap[g]? = some (.cells (hs st (padR rest (n % 64)) n) 99 (0, 0))) ∧ Touch g w W2 := by
    have hrow := heap_setCell_same w g (8 + n % 64) _ _ (.int .u8 128) hh.out
    refine ⟨_, fun ty => run_clear_row _ ty g (8 + (n % 64 + 1)) (63 - n % 64) _ 99 _ hrow (by rw [Array.size_setIfInBounds, hs_size _ _ _ hst hrs]; omega), ?_, ?_⟩
    · have := setRow_heap _ _ _ (((hs st rest n).setIfInBounds (8 + n % 64) (Value.int .u8 128)).toList.take (8 + (n % 64 + 1)) ++ List.replicate (63 - n % 64) (Value.int .u8 0) ++ ((hs st rest n).setIfInBounds (8 + n % 64) (Value.int .u8 128)).toList.drop (8 + (n % 64 + 1) + (63 - n % 64))).toArray _ _ hrow
      rw [hs_clear st rest n (n % 64) hst hrs (by omega)] at this
      rw [hs_clear st rest n (n % 64) hst hrs (by omega)]
      exact this
    · exact ((Touch.refl g w).setCell _).setRow _
  have cn2 : W2.cell? ⟨g, 72, none⟩ = some (.int .i64 (n : Int)) := by rw [cell_of_row W2 _ _ _ _ _ row2.out, hs_len _ _ _ hst (padR_len _ _ hrs (by omega))]
  have hn' : (n : Int) ≤ 1152921504606846976 := by omega
  have hn0 : (0 : Int) ≤ (n : Int) := by omega
  have hu' : (n : Int) % 64 < 56 := by omega
  have hal : Tryd.prog.arrayLen 97 = 64 := by kernel_rfl
  have hu0 : (0 : Int) ≤ (n : Int) % 64 + 1 := by omega
  have hu1 : (n : Int) % 64 + 1 ≤ 64 := by omega
  have hu2 : ((n : Int) % 64 + 1).toNat = n % 64 + 1 := by omega
  have hu3 : ((n : Int) % 64 + 1).toNat ≠ 64 := by omega
  go_enter Tryd.func59, Tryd.ntmps59
  go_wp2_with fail
  go_loopw [45] (fun i wr => ∃ (k : Nat) (r : List Nat), k ≤ 8 ∧ i = .int .i64 k ∧ Hid (r = lenk (padR rest (n % 64)) n k) ∧ Hid (wr.heap[g]? = some (.cells (hs st r n) 99 (0, 0))) ∧ Touch g w wr) (fun i _ => 8 - (intOf i).toNat)
  case atStart => exact ⟨0, _, by omega, rfl, rfl, row2, tch2⟩
  case round =>
    clear hcl cn cu cn2 fz row2 tch2
    obtain ⟨k, r, hk, rfl, Hr, HQ, tch⟩ := hrel
    have hrl : r.length = 64 := by rw [Hr.out, lenk_len, padR_len _ _ hrs (by omega)]
    have fz : ∀ i, wr.frozen? ⟨g, i, none⟩ = false := fun i => frozen_of_row wr _ i _ _ HQ.out
    by_cases hlt : k < 8
    · have ck : wr.cell? ⟨g, 8 + (56 + k), none⟩ = some (.int .u8 ((r.getD (56 + k) 0 : Nat) : Int)) := by rw [cell_of_row wr _ _ _ _ _ HQ.out, hs_rest _ _ _ hst hrl _ (by omega)]
      have hk1 : (k : Int) < 8 := by omega
      have hk0 : (0 : Int) ≤ (k : Int) := by omega
      have hk2 : (0 : Int) ≤ 56 - 8 * (k : Int) := by omega
      have hk3 : (56 : Int) + (k : Int) < 64 := by omega
      have hk4 : (0 : Int) ≤ 56 + (k : Int) := by omega
      go_wp2
      go_region
      go_wp2
      go_roundw
      case rel =>
        have ev : ((n : Int) * 8 / 2 ^ (56 - 8 * k) % 256) = ((8 * n / 2 ^ (56 - 8 * k) % 256 : Nat) : Int) := by
          rw [Nat.mul_comm 8 n]
          simp only [Int.natCast_emod, Int.natCast_ediv, Int.natCast_mul, Int.natCast_pow]
          rfl
        rw [ev]
        refine ⟨k + 1, _, by omega, by go_num, rfl, ?_, (tch.setCell _).drew⟩
        exact (heap_setCell_same _ _ _ _ _ _ HQ.out).trans (by rw [hs_set_rest _ _ _ _ _ hst hrl (by omega), lenk, Hr.out])
      case measure => simp [intOf]; omega
    · have hk8 : k = 8 := by omega
      have HE : Hid (r = lenk (padR rest (n % 64)) n 8) := by rw [hk8] at Hr; exact Hr
      have hrb2 : Byt r := by rw [HE.out]; exact lenk_byt _ _ (padR_byt _ _ hrb) 8
      clear hk8 Hr
      obtain ⟨s0, s1, s2, s3, s4, s5, s6, s7, rfl⟩ := eight st hst
      obtain ⟨m0, m1, m2, m3, m4, m5, m6, m7, hmx⟩ := eight (mixN ks [s0, s1, s2, s3, s4, s5, s6, s7] r) rfl
      have HM : Hid (mixN ks [s0, s1, s2, s3, s4, s5, s6, s7] r = [m0, m1, m2, m3, m4, m5, m6, m7]) := hmx
      clear hmx
      have c0 : wr.cell? ⟨g, 0, none⟩ = some (.int .u32 (s0 : Int)) := by rw [cell_of_row wr _ _ _ _ _ HQ.out, hs_state _ _ _ rfl 0 (by decide)]; rfl
      have c1 : wr.cell? ⟨g, 1, none⟩ = some (.int .u32 (s1 : Int)) := by rw [cell_of_row wr _ _ _ _ _ HQ.out, hs_state _ _ _ rfl 1 (by decide)]; rfl
      have c2 : wr.cell? ⟨g, 2, none⟩ = some (.int .u32 (s2 : Int)) := by rw [cell_of_row wr _ _ _ _ _ HQ.out, hs_state _ _ _ rfl 2 (by decide)]; rfl
      have c3 : wr.cell? ⟨g, 3, none⟩ = some (.int .u32 (s3 : Int)) := by rw [cell_of_row wr _ _ _ _ _ HQ.out, hs_state _ _ _ rfl 3 (by decide)]; rfl
      have c4 : wr.cell? ⟨g, 4, none⟩ = some (.int .u32 (s4 : Int)) := by rw [cell_of_row wr _ _ _ _ _ HQ.out, hs_state _ _ _ rfl 4 (by decide)]; rfl
      have c5 : wr.cell? ⟨g, 5, none⟩ = some (.int .u32 (s5 : Int)) := by rw [cell_of_row wr _ _ _ _ _ HQ.out, hs_state _ _ _ rfl 5 (by decide)]; rfl
      have c6 : wr.cell? ⟨g, 6, none⟩ = some (.int .u32 (s6 : Int)) := by rw [cell_of_row wr _ _ _ _ _ HQ.out, hs_state _ _ _ rfl 6 (by decide)]; rfl
      have c7 : wr.cell? ⟨g, 7, none⟩ = some (.int .u32 (s7 : Int)) := by rw [cell_of_row wr _ _ _ _ _ HQ.out, hs_state _ _ _ rfl 7 (by decide)]; rfl
      have hgr : g < wr.heap.size := Nat.lt_of_lt_of_le hgl tch.size
      have hmix := hm [s0, s1, s2, s3, s4, s5, s6, s7] r rfl hsw hrb2 g 8 64 (by decide) (by unfold maxLen; decide) wr.drew hgr (Nat.lt_of_lt_of_le hg1 tch.size)
        (fun j hj => by show wr.cell? _ = _; rw [cell_of_row wr _ _ _ _ _ HQ.out, hs_rest _ _ _ rfl hrl j hj])
        (fun j hj => (World.cell?_of_block (w := w) (tch.block 4 hg1 (Ne.symm hg))).trans (hK.out j hj))
      have HC : Hid (Calls Tryd.prog 58 #[.agg (ws [s0, s1, s2, s3, s4, s5, s6, s7]), .slice (some ⟨g, 8, none⟩) 64 64] wr.drew fun e w' => e = .returned (.agg #[Value.int IntKind.u32 (m0 : Int), Value.int IntKind.u32 (m1 : Int), Value.int IntKind.u32 (m2 : Int), Value.int IntKind.u32 (m3 : Int), Value.int IntKind.u32 (m4 : Int), Value.int IntKind.u32 (m5 : Int), Value.int IntKind.u32 (m6 : Int), Value.int IntKind.u32 (m7 : Int)]) ∧ Below wr.drew.heap.size wr.drew w') := by rw [HM.out] at hmix; exact hmix
      clear hmix
      go_wp2
      go_region_with ((go_at_call 58; refine HC.out.mono ?_; rintro e w' ⟨rfl, hb'⟩; have cc : ∀ j, w'.cell? ⟨g, j, none⟩ = wr.cell? ⟨g, j, none⟩ := (fun j => hb'.cell (p := ⟨g, j, none⟩) hgr); have ff : ∀ j, w'.frozen? ⟨g, j, none⟩ = wr.frozen? ⟨g, j, none⟩ := (fun j => hb'.frozen (p := ⟨g, j, none⟩) hgr)))
      all_goals go_wp2
      all_goals go_end0
      all_goals
        refine ⟨rfl, ?_, ?_⟩
        · rw [← HE.out, HM.out]
          exact hs_row8 w' g _ r n rfl m0 m1 m2 m3 m4 m5 m6 m7 ((hb'.block g hgr).trans HQ.out)
        · exact (tch.drew.trans (Touch.of_below hb')).trans (touch8 w' g _ _ _ _ _ _ _ _)
end Go.Proofs.YtceclpabdfncoaaDoor.Sha

namespace Go.Proofs.YtceclpabdfncoaaDoor.Sha
open Go.RowKit
set_option maxRecDepth 100000 in
theorem hs_clear_all (st rest : List Nat) (n : Nat) (hst : st.length = 8) (hrs : rest.length = 64) :
    ((hs st rest n).toList.take 8 ++ List.replicate 64 (Value.int .u8 0) ++ (hs st rest n).toList.drop (8 + 64)).toArray = hs st (List.replicate 64 0) n := by
  have l1 : (st.map (fun (x : Nat) => Value.int .u32 (x : Int))).length = 8 := by rw [List.length_map, hst]
  have e : (hs st rest n).toList = st.map (fun (x : Nat) => Value.int .u32 (x : Int)) ++ (rest.map (fun (x : Nat) => Value.int .u8 (x : Int)) ++ [Value.int .i64 (n : Int)]) := by simp [hs]
  rw [e, List.take_left' l1, ← List.append_assoc, List.drop_left' (by rw [List.length_append, l1, List.length_map, hrs])]
  simp [hs]
set_option maxRecDepth 100000 in
set_option maxHeartbeats 2000000 in
theorem pad_long (ks : List Nat) (hm : MixOK ks) (g : Nat) (st rest : List Nat) (n : Nat) (hst : st.length = 8) (hrs : rest.length = 64) (hn : n ≤ 1152921504606846976) (hsw : Wrd st) (hrb : Byt rest) (w : World) (hg : g ≠ 4) (hgl : g < w.heap.size) (hg1 : 4 < w.heap.size) (hK : Hid (∀ j, j < 64 → w.cell? ⟨4, j, none⟩ = some (.int .u32 ((ks.getD j 0 : Nat) : Int)))) (hh : Hid (w.heap[g]? = some (.cells (hs st rest n) 99 (0, 0)))) (hu : 56 ≤ n % 64) (hu63 : n % 64 < 63) :
    Calls Tryd.prog 59 #[.pointer (some ⟨g, 0, none⟩)] w fun e w' => e = .returned (.tuple #[]) ∧ Hid (w'.heap[g]? = some (.cells (hs (mixN ks (mixN ks st (padR rest (n % 64))) (lenk (List.replicate 64 0) n 8)) (lenk (List.replicate 64 0) n 8) n) 99 (0, 0))) ∧ Touch g w w' := by
  have cn : w.cell? ⟨g, 72, none⟩ = some (.int .i64 (n : Int)) := by rw [cell_of_row w _ _ _ _ _ hh.out, hs_len _ _ _ hst hrs]
  have cu : w.cell? ⟨g, 8 + n % 64, none⟩ = some (.int .u8 ((rest.getD (n % 64) 0 : Nat) : Int)) := by rw [cell_of_row w _ _ _ _ _ hh.out, hs_rest _ _ _ hst hrs _ (by omega)]
  have fz : ∀ i, w.frozen? ⟨g, i, none⟩ = false := fun i => frozen_of_row w _ i _ _ hh.out
  obtain ⟨W2, hcl, row2, tch2⟩ : ∃ W2, (∀ ty, (Builtin.clear_ #[23] ty #[.slice (some ⟨g, 8 + (n % 64 + 1), none⟩) (63 - n % 64) (63 - n % 64)]).run Tryd.prog (w.setCell ⟨g, 8 + n % 64, none⟩ (.int .u8 128)) = .ok (.tuple #[]) W2) ∧ Hid (W2.heap[g]? = some (.cells (hs st (padR rest (n % 64)) n) 99 (0, 0))) ∧ Touch g w W2 := by
    have hrow := heap_setCell_same w g (8 + n % 64) _ _ (.int .u8 128) hh.out
    refine ⟨_, fun ty => run_clear_row _ ty g (8 + (n % 64 + 1)) (63 - n % 64) _ 99 _ hrow (by rw [Array.size_setIfInBounds, hs_size _ _ _ hst hrs]; omega), ?_, ?_⟩
    · have := setRow_heap _ _ _ (((hs st rest n).setIfInBounds (8 + n % 64) (Value.int .u8 128)).toList.take (8 + (n % 64 + 1)) ++ List.replicate (63 - n % 64) (Value.int .u8 0) ++ ((hs st rest n).setIfInBounds (8 + n % 64) (Value.int .u8 128)).toList.drop (8 + (n % 64 + 1) + (63 - n % 64))).toArray _ _ hrow
      rw [hs_clear st rest n (n % 64) hst hrs (by omega)] at this
      rw [hs_clear st rest n (n % 64) hst hrs (by omega)]
      exact this
    · exact ((Touch.refl g w).setCell _).setRow _
  have cn2 : W2.cell? ⟨g, 72, none⟩ = some (.int .i64 (n : Int)) := by rw [cell_of_row W2 _ _ _ _ _ row2.out, hs_len _ _ _ hst (padR_len _ _ hrs (by omega))]
  have hn' : (n : Int) ≤ 1152921504606846976 := by omega
  have hn0 : (0 : Int) ≤ (n : Int) := by omega
  have hu' : (56 : Int) ≤ (n : Int) % 64 := by omega
  have hu6 : (n : Int) % 64 < 63 := by omega
  have hal : Tryd.prog.arrayLen 97 = 64 := by kernel_rfl
  have hu0 : (0 : Int) ≤ (n : Int) % 64 + 1 := by omega
  have hu1 : (n : Int) % 64 + 1 ≤ 64 := by omega
  have hu2 : ((n : Int) % 64 + 1).toNat = n % 64 + 1 := by omega
  have hu3 : ((n : Int) % 64 + 1).toNat ≠ 64 := by omega
  obtain ⟨r1, hr1⟩ : ∃ r, r = padR rest (n % 64) := ⟨_, rfl⟩
  have HR1 : Hid (r1 = padR rest (n % 64)) := hr1
  rw [← hr1] at row2
  have hr1l : r1.length = 64 := by rw [hr1]; exact padR_len _ _ hrs (by omega)
  have hr1b : Byt r1 := by rw [hr1]; exact padR_byt _ _ hrb
  clear hr1
  obtain ⟨s0, s1, s2, s3, s4, s5, s6, s7, rfl⟩ := eight st hst
  obtain ⟨m0, m1, m2, m3, m4, m5, m6, m7, hmx⟩ := eight (mixN ks [s0, s1, s2, s3, s4, s5, s6, s7] r1) rfl
  have HM : Hid (mixN ks [s0, s1, s2, s3, s4, s5, s6, s7] r1 = [m0, m1, m2, m3, m4, m5, m6, m7]) := hmx
  have hmw : Wrd [m0, m1, m2, m3, m4, m5, m6, m7] := by rw [← hmx]; exact mixN_wrd _ _ _
  clear hmx
  have c0 : W2.cell? ⟨g, 0, none⟩ = some (.int .u32 (s0 : Int)) := by rw [cell_of_row W2 _ _ _ _ _ row2.out, hs_state _ _ _ rfl 0 (by decide)]; rfl
  have c1 : W2.cell? ⟨g, 1, none⟩ = some (.int .u32 (s1 : Int)) := by rw [cell_of_row W2 _ _ _ _ _ row2.out, hs_state _ _ _ rfl 1 (by decide)]; rfl
  have c2 : W2.cell? ⟨g, 2, none⟩ = some (.int .u32 (s2 : Int)) := by rw [cell_of_row W2 _ _ _ _ _ row2.out, hs_state _ _ _ rfl 2 (by decide)]; rfl
  have c3 : W2.cell? ⟨g, 3, none⟩ = some (.int .u32 (s3 : Int)) := by rw [cell_of_row W2 _ _ _ _ _ row2.out, hs_state _ _ _ rfl 3 (by decide)]; rfl
  have c4 : W2.cell? ⟨g, 4, none⟩ = some (.int .u32 (s4 : Int)) := by rw [cell_of_row W2 _ _ _ _ _ row2.out, hs_state _ _ _ rfl 4 (by decide)]; rfl
  have c5 : W2.cell? ⟨g, 5, none⟩ = some (.int .u32 (s5 : Int)) := by rw [cell_of_row W2 _ _ _ _ _ row2.out, hs_state _ _ _ rfl 5 (by decide)]; rfl
  have c6 : W2.cell? ⟨g, 6, none⟩ = some (.int .u32 (s6 : Int)) := by rw [cell_of_row W2 _ _ _ _ _ row2.out, hs_state _ _ _ rfl 6 (by decide)]; rfl
  have c7 : W2.cell? ⟨g, 7, none⟩ = some (.int .u32 (s7 : Int)) := by rw [cell_of_row W2 _ _ _ _ _ row2.out, hs_state _ _ _ rfl 7 (by decide)]; rfl
  have fz2 : ∀ i, W2.frozen? ⟨g, i, none⟩ = false := fun i => frozen_of_row W2 _ i _ _ row2.out
  have hgr : g < W2.heap.size := Nat.lt_of_lt_of_le hgl tch2.size
  have hmix := hm [s0, s1, s2, s3, s4, s5, s6, s7] r1 rfl hsw hr1b g 8 64 (by decide) (by unfold maxLen; decide) W2.drew hgr (Nat.lt_of_lt_of_le hg1 tch2.size)
    (fun j hj => by show W2.cell? _ = _; rw [cell_of_row W2 _ _ _ _ _ row2.out, hs_rest _ _ _ rfl hr1l j hj])
    (fun j hj => (World.cell?_of_block (w := w) (tch2.block 4 hg1 (Ne.symm hg))).trans (hK.out j hj))
  have HC : Hid (Calls Tryd.prog 58 #[.agg (ws [s0, s1, s2, s3, s4, s5, s6, s7]), .slice (some ⟨g, 8, none⟩) 64 64] W2.drew fun e w' => e = .returned (.agg #[Value.int IntKind.u32 (m0 : Int), Value.int IntKind.u32 (m1 : Int), Value.int IntKind.u32 (m2 : Int), Value.int IntKind.u32 (m3 : Int), Value.int IntKind.u32 (m4 : Int), Value.int IntKind.u32 (m5 : Int), Value.int IntKind.u32 (m6 : Int), Value.int IntKind.u32 (m7 : Int)]) ∧ Below W2.drew.heap.size W2.drew w') := by rw [HM.out] at hmix; exact hmix
  clear hmix
  go_enter Tryd.func59, Tryd.ntmps59
  go_wp2_with fail
  go_region_with ((go_at_call 58; refine HC.out.mono ?_; rintro e w' ⟨rfl, hb'⟩; have cc : ∀ j, w'.cell? ⟨g, j, none⟩ = W2.cell? ⟨g, j, none⟩ := (fun j => hb'.cell (p := ⟨g, j, none⟩) hgr); have ff : ∀ j, w'.frozen? ⟨g, j, none⟩ = W2.frozen? ⟨g, j, none⟩ := (fun j => hb'.frozen (p := ⟨g, j, none⟩) hgr)))
  have row3 : Hid (((((((((w'.setCell ⟨g, 0, none⟩ (Value.int IntKind.u32 (m0 : Int))).setCell ⟨g, 1, none⟩ (Value.int IntKind.u32 (m1 : Int))).setCell ⟨g, 2, none⟩ (Value.int IntKind.u32 (m2 : Int))).setCell ⟨g, 3, none⟩ (Value.int IntKind.u32 (m3 : Int))).setCell ⟨g, 4, none⟩ (Value.int IntKind.u32 (m4 : Int))).setCell ⟨g, 5, none⟩ (Value.int IntKind.u32 (m5 : Int))).setCell ⟨g, 6, none⟩ (Value.int IntKind.u32 (m6 : Int))).setCell ⟨g, 7, none⟩ (Value.int IntKind.u32 (m7 : Int))).heap[g]? = some (.cells (hs [m0, m1, m2, m3, m4, m5, m6, m7] r1 n) 99 (0, 0))) := hs_row8 w' g _ r1 n rfl m0 m1 m2 m3 m4 m5 m6 m7 ((hb'.block g hgr).trans row2.out)
  have tch3 : Touch g w ((((((((w'.setCell ⟨g, 0, none⟩ (Value.int IntKind.u32 (m0 : Int))).setCell ⟨g, 1, none⟩ (Value.int IntKind.u32 (m1 : Int))).setCell ⟨g, 2, none⟩ (Value.int IntKind.u32 (m2 : Int))).setCell ⟨g, 3, none⟩ (Value.int IntKind.u32 (m3 : Int))).setCell ⟨g, 4, none⟩ (Value.int IntKind.u32 (m4 : Int))).setCell ⟨g, 5, none⟩ (Value.int IntKind.u32 (m5 : Int))).setCell ⟨g, 6, none⟩ (Value.int IntKind.u32 (m6 : Int))).setCell ⟨g, 7, none⟩ (Value.int IntKind.u32 (m7 : Int))) := (tch2.drew.trans (Touch.of_below hb')).trans (touch8 w' g _ _ _ _ _ _ _ _)
  revert row3 tch3
  generalize ((((((((w'.setCell ⟨g, 0, none⟩ (Value.int IntKind.u32 (m0 : Int))).setCell ⟨g, 1, none⟩ (Value.int IntKind.u32 (m1 : Int))).setCell ⟨g, 2, none⟩ (Value.int IntKind.u32 (m2 : Int))).setCell ⟨g, 3, none⟩ (Value.int IntKind.u32 (m3 : Int))).setCell ⟨g, 4, none⟩ (Value.int IntKind.u32 (m4 : Int))).setCell ⟨g, 5, none⟩ (Value.int IntKind.u32 (m5 : Int))).setCell ⟨g, 6, none⟩ (Value.int IntKind.u32 (m6 : Int))).setCell ⟨g, 7, none⟩ (Value.int IntKind.u32 (m7 : Int))) = W3
  intro row3 tch3
  clear c0 c1 c2 c3 c4 c5 c6 c7 fz2 cc ff hb' HC cn2 hcl cn cu fz row2 tch2 hgr
  obtain ⟨W4, hcl4, row4, tch4⟩ : ∃ W4, (∀ ty, (Builtin.clear_ #[23] ty #[.slice (some ⟨g, 8, none⟩) 64 64]).run Tryd.prog W3 = .ok (.tuple #[]) W4) ∧ Hid (W4.heap[g]? = some (.cells (hs [m0, m1, m2, m3, m4, m5, m6, m7] (List.replicate 64 0) n) 99 (0, 0))) ∧ Touch g w W4 := by
    refine ⟨_, fun ty => run_clear_row _ ty g 8 64 _ 99 _ row3.out (by rw [hs_size _ _ _ rfl hr1l]; decide), ?_, tch3.setRow _⟩
    have := setRow_heap _ _ _ ((hs [m0, m1, m2, m3, m4, m5, m6, m7] r1 n).toList.take 8 ++ List.replicate 64 (Value.int .u8 0) ++ (hs [m0, m1, m2, m3, m4, m5, m6, m7] r1 n).toList.drop (8 + 64)).toArray _ _ row3.out
    rw [hs_clear_all _ _ _ rfl hr1l] at this
    rw [hs_clear_all _ _ _ rfl hr1l]
    exact this
  have cn4 : W4.cell? ⟨g, 72, none⟩ = some (.int .i64 (n : Int)) := by rw [cell_of_row W4 _ _ _ _ _ row4.out, hs_len _ _ _ rfl (by rw [List.length_replicate])]
  go_wp2_with fail
  go_loopw [45] (fun i wr => ∃ (k : Nat) (r : List Nat), k ≤ 8 ∧ i = .int .i64 k ∧ Hid (r = lenk (List.replicate 64 0) n k) ∧ Hid (wr.heap[g]? = some (.cells (hs [m0, m1, m2, m3, m4, m5, m6, m7] r n) 99 (0, 0))) ∧ Touch g w wr) (fun i _ => 8 - (intOf i).toNat)
  case atStart => exact ⟨0, _, by omega, rfl, rfl, row4, tch4⟩
  case round =>
    clear hcl4 cn4 row3 tch3 row4 tch4
    obtain ⟨k, r, hk, rfl, Hr, HQ, tch⟩ := hrel
    have hrl : r.length = 64 := by rw [Hr.out, lenk_len, List.length_replicate]
    have fz : ∀ i, wr.frozen? ⟨g, i, none⟩ = false := fun i => frozen_of_row wr _ i _ _ HQ.out
    by_cases hlt : k < 8
    · have ck : wr.cell? ⟨g, 8 + (56 + k), none⟩ = some (.int .u8 ((r.getD (56 + k) 0 : Nat) : Int)) := by rw [cell_of_row wr _ _ _ _ _ HQ.out, hs_rest _ _ _ rfl hrl _ (by omega)]
      have hk1 : (k : Int) < 8 := by omega
      have hk0 : (0 : Int) ≤ (k : Int) := by omega
      have hk2 : (0 : Int) ≤ 56 - 8 * (k : Int) := by omega
      have hk3 : (56 : Int) + (k : Int) < 64 := by omega
      have hk4 : (0 : Int) ≤ 56 + (k : Int) := by omega
      go_wp2
      go_region
      go_wp2
      go_roundw
      case rel =>
        have ev : ((n : Int) * 8 / 2 ^ (56 - 8 * k) % 256) = ((8 * n / 2 ^ (56 - 8 * k) % 256 : Nat) : Int) := by
          rw [Nat.mul_comm 8 n]
          simp only [Int.natCast_emod, Int.natCast_ediv, Int.natCast_mul, Int.natCast_pow]
          rfl
        rw [ev]
        refine ⟨k + 1, _, by omega, by go_num, rfl, ?_, (tch.setCell _).drew⟩
        exact (heap_setCell_same _ _ _ _ _ _ HQ.out).trans (by rw [hs_set_rest _ _ _ _ _ rfl hrl (by omega), lenk, Hr.out])
      case measure => simp [intOf]; omega
    · have hk8 : k = 8 := by omega
      have HE : Hid (r = lenk (List.replicate 64 0) n 8) := by rw [hk8] at Hr; exact Hr
      have hrb2 : Byt r := by rw [HE.out]; exact lenk_byt _ _ (fun x hx => by have : x = 0 := List.eq_of_mem_replicate hx; omega) 8
      clear hk8 Hr
      obtain ⟨p0, p1, p2, p3, p4, p5, p6, p7, hmx⟩ := eight (mixN ks [m0, m1, m2, m3, m4, m5, m6, m7] r) rfl
      have HP : Hid (mixN ks [m0, m1, m2, m3, m4, m5, m6, m7] r = [p0, p1, p2, p3, p4, p5, p6, p7]) := hmx
      clear hmx
      have c0 : wr.cell? ⟨g, 0, none⟩ = some (.int .u32 (m0 : Int)) := by rw [cell_of_row wr _ _ _ _ _ HQ.out, hs_state _ _ _ rfl 0 (by decide)]; rfl
      have c1 : wr.cell? ⟨g, 1, none⟩ = some (.int .u32 (m1 : Int)) := by rw [cell_of_row wr _ _ _ _ _ HQ.out, hs_state _ _ _ rfl 1 (by decide)]; rfl
      have c2 : wr.cell? ⟨g, 2, none⟩ = some (.int .u32 (m2 : Int)) := by rw [cell_of_row wr _ _ _ _ _ HQ.out, hs_state _ _ _ rfl 2 (by decide)]; rfl
      have c3 : wr.cell? ⟨g, 3, none⟩ = some (.int .u32 (m3 : Int)) := by rw [cell_of_row wr _ _ _ _ _ HQ.out, hs_state _ _ _ rfl 3 (by decide)]; rfl
      have c4 : wr.cell? ⟨g, 4, none⟩ = some (.int .u32 (m4 : Int)) := by rw [cell_of_row wr _ _ _ _ _ HQ.out, hs_state _ _ _ rfl 4 (by decide)]; rfl
      have c5 : wr.cell? ⟨g, 5, none⟩ = some (.int .u32 (m5 : Int)) := by rw [cell_of_row wr _ _ _ _ _ HQ.out, hs_state _ _ _ rfl 5 (by decide)]; rfl
      have c6 : wr.cell? ⟨g, 6, none⟩ = some (.int .u32 (m6 : Int)) := by rw [cell_of_row wr _ _ _ _ _ HQ.out, hs_state _ _ _ rfl 6 (by decide)]; rfl
      have c7 : wr.cell? ⟨g, 7, none⟩ = some (.int .u32 (m7 : Int)) := by rw [cell_of_row wr _ _ _ _ _ HQ.out, hs_state _ _ _ rfl 7 (by decide)]; rfl
      have hgr : g < wr.heap.size := Nat.lt_of_lt_of_le hgl tch.size
      have hmix := hm [m0, m1, m2, m3, m4, m5, m6, m7] r rfl hmw hrb2 g 8 64 (by decide) (by unfold maxLen; decide) wr.drew hgr (Nat.lt_of_lt_of_le hg1 tch.size)
        (fun j hj => by show wr.cell? _ = _; rw [cell_of_row wr _ _ _ _ _ HQ.out, hs_rest _ _ _ rfl hrl j hj])
        (fun j hj => (World.cell?_of_block (w := w) (tch.block 4 hg1 (Ne.symm hg))).trans (hK.out j hj))
      have HC : Hid (Calls Tryd.prog 58 #[.agg (ws [m0, m1, m2, m3, m4, m5, m6, m7]), .slice (some ⟨g, 8, none⟩) 64 64] wr.drew fun e w' => e = .returned (.agg #[Value.int IntKind.u32 (p0 : Int), Value.int IntKind.u32 (p1 : Int), Value.int IntKind.u32 (p2 : Int), Value.int IntKind.u32 (p3 : Int), Value.int IntKind.u32 (p4 : Int), Value.int IntKind.u32 (p5 : Int), Value.int IntKind.u32 (p6 : Int), Value.int IntKind.u32 (p7 : Int)]) ∧ Below wr.drew.heap.size wr.drew w') := by rw [HP.out] at hmix; exact hmix
      clear hmix
      go_wp2
      go_region_with ((go_at_call 58; refine HC.out.mono ?_; rintro e w' ⟨rfl, hb'⟩; have cc : ∀ j, w'.cell? ⟨g, j, none⟩ = wr.cell? ⟨g, j, none⟩ := (fun j => hb'.cell (p := ⟨g, j, none⟩) hgr); have ff : ∀ j, w'.frozen? ⟨g, j, none⟩ = wr.frozen? ⟨g, j, none⟩ := (fun j => hb'.frozen (p := ⟨g, j, none⟩) hgr)))
      all_goals go_wp2
      all_goals go_end0
      all_goals
        refine ⟨rfl, ?_, ?_⟩
        · rw [← HE.out, ← HR1.out, HM.out, HP.out]
          exact hs_row8 w' g _ r n rfl p0 p1 p2 p3 p4 p5 p6 p7 ((hb'.block g hgr).trans HQ.out)
        · exact (tch.drew.trans (Touch.of_below hb')).trans (touch8 w' g _ _ _ _ _ _ _ _)
end Go.Proofs.YtceclpabdfncoaaDoor.Sha

namespace Go.Proofs.YtceclpabdfncoaaDoor.Sha
open Go.RowKit
set_option maxRecDepth 100000 in
set_option maxHeartbeats 2000000 in
theorem pad_last (ks : List Nat) (hm : MixOK ks) (g : Nat) (st rest : List Nat) (n : Nat) (hst : st.length = 8) (hrs : rest.length = 64) (hn : n ≤ 1152921504606846976) (hsw : Wrd st) (hrb : Byt rest) (w : World) (hg : g ≠ 4) (hgl : g < w.heap.size) (hg1 : 4 < w.heap.size) (hK : Hid (∀ j, j < 64 → w.cell? ⟨4, j, none⟩ = some (.int .u32 ((ks.getD j 0 : Nat) : Int)))) (hh : Hid (w.heap[g]? = some (.cells (hs st rest n) 99 (0, 0)))) (hu : n % 64 = 63) :
    Calls Tryd.prog 59 #[.pointer (some ⟨g, 0, none⟩)] w fun e w' => e = .returned (.tuple #[]) ∧ Hid (w'.heap[g]? = some (.cells (hs (mixN ks (mixN ks st (padR rest (n % 64))) (lenk (List.replicate 64 0) n 8)) (lenk (List.replicate 64 0) n 8) n) 99 (0, 0))) ∧ Touch g w w' := by
  have cn : w.cell? ⟨g, 72, none⟩ = some (.int .i64 (n : Int)) := by rw [cell_of_row w _ _ _ _ _ hh.out, hs_len _ _ _ hst hrs]
  have cu : w.cell? ⟨g, 71, none⟩ = some (.int .u8 ((rest.getD 63 0 : Nat) : Int)) := by rw [cell_of_row w _ _ _ _ _ hh.out, show 71 = 8 + 63 from rfl, hs_rest _ _ _ hst hrs _ (by omega)]
  have fz : ∀ i, w.frozen? ⟨g, i, none⟩ = false := fun i => frozen_of_row w _ i _ _ hh.out
  obtain ⟨W2, hcl, row2, tch2⟩ : ∃ W2, (∀ ty, (Builtin.clear_ #[23] ty #[.slice (some ⟨g, 8, none⟩) 0 0]).run Tryd.prog (w.setCell ⟨g, 71, none⟩ (.int .u8 128)) = .ok (.tuple #[]) W2) ∧ Hid (W2.heap[g]? = some (.cells (hs st (padR rest (n % 64)) n) 99 (0, 0))) ∧ Touch g w W2 := by
    refine ⟨w.setCell ⟨g, 71, none⟩ (.int .u8 128), fun ty => by simp [Builtin.clear_, run_underlying Tryd.underlying23], ?_, (Touch.refl g w).setCell _⟩
    show _ = _
    rw [heap_setCell_same w g 71 _ _ (.int .u8 128) hh.out, show 71 = 8 + 63 from rfl, show (Value.int .u8 128) = Value.int .u8 ((128 : Nat) : Int) from rfl, hs_set_rest _ _ _ _ _ hst hrs (by omega), hu]
    have e : rest.set 63 128 = padR rest 63 := by
      unfold padR
      rw [List.set_eq_take_append_cons_drop, if_pos (by omega)]
      have : rest.drop (63 + 1) = [] := List.drop_eq_nil_of_le (by omega)
      rw [this]
      rfl
    rw [e]
  have cn2 : W2.cell? ⟨g, 72, none⟩ = some (.int .i64 (n : Int)) := by rw [cell_of_row W2 _ _ _ _ _ row2.out, hs_len _ _ _ hst (padR_len _ _ hrs (by omega))]
  have hn' : (n : Int) ≤ 1152921504606846976 := by omega
  have hn0 : (0 : Int) ≤ (n : Int) := by omega
  have hI : (n : Int) % 64 = 63 := by omega
  have hal : Tryd.prog.arrayLen 97 = 64 := by kernel_rfl
  obtain ⟨r1, hr1⟩ : ∃ r, r = padR rest (n % 64) := ⟨_, rfl⟩
  have HR1 : Hid (r1 = padR rest (n % 64)) := hr1
  rw [← hr1] at row2
  have hr1l : r1.length = 64 := by rw [hr1]; exact padR_len _ _ hrs (by omega)
  have hr1b : Byt r1 := by rw [hr1]; exact padR_byt _ _ hrb
  clear hr1
  obtain ⟨s0, s1, s2, s3, s4, s5, s6, s7, rfl⟩ := eight st hst
  obtain ⟨m0, m1, m2, m3, m4, m5, m6, m7, hmx⟩ := eight (mixN ks [s0, s1, s2, s3, s4, s5, s6, s7] r1) rfl
  have HM : Hid (mixN ks [s0, s1, s2, s3, s4, s5, s6, s7] r1 = [m0, m1, m2, m3, m4, m5, m6, m7]) := hmx
  have hmw : Wrd [m0, m1, m2, m3, m4, m5, m6, m7] := by rw [← hmx]; exact mixN_wrd _ _ _
  clear hmx
  have c0 : W2.cell? ⟨g, 0, none⟩ = some (.int .u32 (s0 : Int)) := by rw [cell_of_row W2 _ _ _ _ _ row2.out, hs_state _ _ _ rfl 0 (by decide)]; rfl
  have c1 : W2.cell? ⟨g, 1, none⟩ = some (.int .u32 (s1 : Int)) := by rw [cell_of_row W2 _ _ _ _ _ row2.out, hs_state _ _ _ rfl 1 (by decide)]; rfl
  have c2 : W2.cell? ⟨g, 2, none⟩ = some (.int .u32 (s2 : Int)) := by rw [cell_of_row W2 _ _ _ _ _ row2.out, hs_state _ _ _ rfl 2 (by decide)]; rfl
  have c3 : W2.cell? ⟨g, 3, none⟩ = some (.int .u32 (s3 : Int)) := by rw [cell_of_row W2 _ _ _ _ _ row2.out, hs_state _ _ _ rfl 3 (by decide)]; rfl
  have c4 : W2.cell? ⟨g, 4, none⟩ = some (.int .u32 (s4 : Int)) := by rw [cell_of_row W2 _ _ _ _ _ row2.out, hs_state _ _ _ rfl 4 (by decide)]; rfl
  have c5 : W2.cell? ⟨g, 5, none⟩ = some (.int .u32 (s5 : Int)) := by rw [cell_of_row W2 _ _ _ _ _ row2.out, hs_state _ _ _ rfl 5 (by decide)]; rfl
  have c6 : W2.cell? ⟨g, 6, none⟩ = some (.int .u32 (s6 : Int)) := by rw [cell_of_row W2 _ _ _ _ _ row2.out, hs_state _ _ _ rfl 6 (by decide)]; rfl
  have c7 : W2.cell? ⟨g, 7, none⟩ = some (.int .u32 (s7 : Int)) := by rw [cell_of_row W2 _ _ _ _ _ row2.out, hs_state _ _ _ rfl 7 (by decide)]; rfl
  have fz2 : ∀ i, W2.frozen? ⟨g, i, none⟩ = false := fun i => frozen_of_row W2 _ i _ _ row2.out
  have hgr : g < W2.heap.size := Nat.lt_of_lt_of_le hgl tch2.size
  have hmix := hm [s0, s1, s2, s3, s4, s5, s6, s7] r1 rfl hsw hr1b g 8 64 (by decide) (by unfold maxLen; decide) W2.drew hgr (Nat.lt_of_lt_of_le hg1 tch2.size)
    (fun j hj => by show W2.cell? _ = _; rw [cell_of_row W2 _ _ _ _ _ row2.out, hs_rest _ _ _ rfl hr1l j hj])
    (fun j hj => (World.cell?_of_block (w := w) (tch2.block 4 hg1 (Ne.symm hg))).trans (hK.out j hj))
  have HC : Hid (Calls Tryd.prog 58 #[.agg (ws [s0, s1, s2, s3, s4, s5, s6, s7]), .slice (some ⟨g, 8, none⟩) 64 64] W2.drew fun e w' => e = .returned (.agg #[Value.int IntKind.u32 (m0 : Int), Value.int IntKind.u32 (m1 : Int), Value.int IntKind.u32 (m2 : Int), Value.int IntKind.u32 (m3 : Int), Value.int IntKind.u32 (m4 : Int), Value.int IntKind.u32 (m5 : Int), Value.int IntKind.u32 (m6 : Int), Value.int IntKind.u32 (m7 : Int)]) ∧ Below W2.drew.heap.size W2.drew w') := by rw [HM.out] at hmix; exact hmix
  clear hmix
  go_enter Tryd.func59, Tryd.ntmps59
  go_wp2_with fail
  go_region_with ((go_at_call 58; refine HC.out.mono ?_; rintro e w' ⟨rfl, hb'⟩; have cc : ∀ j, w'.cell? ⟨g, j, none⟩ = W2.cell? ⟨g, j, none⟩ := (fun j => hb'.cell (p := ⟨g, j, none⟩) hgr); have ff : ∀ j, w'.frozen? ⟨g, j, none⟩ = W2.frozen? ⟨g, j, none⟩ := (fun j => hb'.frozen (p := ⟨g, j, none⟩) hgr)))
  have row3 : Hid (((((((((w'.setCell ⟨g, 0, none⟩ (Value.int IntKind.u32 (m0 : Int))).setCell ⟨g, 1, none⟩ (Value.int IntKind.u32 (m1 : Int))).setCell ⟨g, 2, none⟩ (Value.int IntKind.u32 (m2 : Int))).setCell ⟨g, 3, none⟩ (Value.int IntKind.u32 (m3 : Int))).setCell ⟨g, 4, none⟩ (Value.int IntKind.u32 (m4 : Int))).setCell ⟨g, 5, none⟩ (Value.int IntKind.u32 (m5 : Int))).setCell ⟨g, 6, none⟩ (Value.int IntKind.u32 (m6 : Int))).setCell ⟨g, 7, none⟩ (Value.int IntKind.u32 (m7 : Int))).heap[g]? = some (.cells (hs [m0, m1, m2, m3, m4, m5, m6, m7] r1 n) 99 (0, 0))) := hs_row8 w' g _ r1 n rfl m0 m1 m2 m3 m4 m5 m6 m7 ((hb'.block g hgr).trans row2.out)
  have tch3 : Touch g w ((((((((w'.setCell ⟨g, 0, none⟩ (Value.int IntKind.u32 (m0 : Int))).setCell ⟨g, 1, none⟩ (Value.int IntKind.u32 (m1 : Int))).setCell ⟨g, 2, none⟩ (Value.int IntKind.u32 (m2 : Int))).setCell ⟨g, 3, none⟩ (Value.int IntKind.u32 (m3 : Int))).setCell ⟨g, 4, none⟩ (Value.int IntKind.u32 (m4 : Int))).setCell ⟨g, 5, none⟩ (Value.int IntKind.u32 (m5 : Int))).setCell ⟨g, 6, none⟩ (Value.int IntKind.u32 (m6 : Int))).setCell ⟨g, 7, none⟩ (Value.int IntKind.u32 (m7 : Int))) := (tch2.drew.trans (Touch.of_below hb')).trans (touch8 w' g _ _ _ _ _ _ _ _)
  revert row3 tch3
  generalize ((((((((w'.setCell ⟨g, 0, none⟩ (Value.int IntKind.u32 (m0 : Int))).setCell ⟨g, 1, none⟩ (Value.int IntKind.u32 (m1 : Int))).setCell ⟨g, 2, none⟩ (Value.int IntKind.u32 (m2 : Int))).setCell ⟨g, 3, none⟩ (Value.int IntKind.u32 (m3 : Int))).setCell ⟨g, 4, none⟩ (Value.int IntKind.u32 (m4 : Int))).setCell ⟨g, 5, none⟩ (Value.int IntKind.u32 (m5 : Int))).setCell ⟨g, 6, none⟩ (Value.int IntKind.u32 (m6 : Int))).setCell ⟨g, 7, none⟩ (Value.int IntKind.u32 (m7 : Int))) = W3
  intro row3 tch3
  clear c0 c1 c2 c3 c4 c5 c6 c7 fz2 cc ff hb' HC cn2 hcl cn cu fz row2 tch2 hgr
  obtain ⟨W4, hcl4, row4, tch4⟩ : ∃ W4, (∀ ty, (Builtin.clear_ #[23] ty #[.slice (some ⟨g, 8, none⟩) 64 64]).run Tryd.prog W3 = .ok (.tuple #[]) W4) ∧ Hid (W4.heap[g]? = some (.cells (hs [m0, m1, m2, m3, m4, m5, m6, m7] (List.replicate 64 0) n) 99 (0, 0))) ∧ Touch g w W4 := by
    refine ⟨_, fun ty => run_clear_row _ ty g 8 64 _ 99 _ row3.out (by rw [hs_size _ _ _ rfl hr1l]; decide), ?_, tch3.setRow _⟩
    have := setRow_heap _ _ _ ((hs [m0, m1, m2, m3, m4, m5, m6, m7] r1 n).toList.take 8 ++ List.replicate 64 (Value.int .u8 0) ++ (hs [m0, m1, m2, m3, m4, m5, m6, m7] r1 n).toList.drop (8 + 64)).toArray _ _ row3.out
    rw [hs_clear_all _ _ _ rfl hr1l] at this
    rw [hs_clear_all _ _ _ rfl hr1l]
    exact this
  have cn4 : W4.cell? ⟨g, 72, none⟩ = some (.int .i64 (n : Int)) := by rw [cell_of_row W4 _ _ _ _ _ row4.out, hs_len _ _ _ rfl (by rw [List.length_replicate])]
  go_wp2_with fail
  go_loopw [45] (fun i wr => ∃ (k : Nat) (r : List Nat), k ≤ 8 ∧ i = .int .i64 k ∧ Hid (r = lenk (List.replicate 64 0) n k) ∧ Hid (wr.heap[g]? = some (.cells (hs [m0, m1, m2, m3, m4, m5, m6, m7] r n) 99 (0, 0))) ∧ Touch g w wr) (fun i _ => 8 - (intOf i).toNat)
  case atStart => exact ⟨0, _, by omega, rfl, rfl, row4, tch4⟩
  case round =>
    clear hcl4 cn4 row3 tch3 row4 tch4
    obtain ⟨k, r, hk, rfl, Hr, HQ, tch⟩ := hrel
    have hrl : r.length = 64 := by rw [Hr.out, lenk_len, List.length_replicate]
    have fz : ∀ i, wr.frozen? ⟨g, i, none⟩ = false := fun i => frozen_of_row wr _ i _ _ HQ.out
    by_cases hlt : k < 8
    · have ck : wr.cell? ⟨g, 8 + (56 + k), none⟩ = some (.int .u8 ((r.getD (56 + k) 0 : Nat) : Int)) := by rw [cell_of_row wr _ _ _ _ _ HQ.out, hs_rest _ _ _ rfl hrl _ (by omega)]
      have hk1 : (k : Int) < 8 := by omega
      have hk0 : (0 : Int) ≤ (k : Int) := by omega
      have hk2 : (0 : Int) ≤ 56 - 8 * (k : Int) := by omega
      have hk3 : (56 : Int) + (k : Int) < 64 := by omega
      have hk4 : (0 : Int) ≤ 56 + (k : Int) := by omega
      go_wp2
      go_region
      go_wp2
      go_roundw
      case rel =>
        have ev : ((n : Int) * 8 / 2 ^ (56 - 8 * k) % 256) = ((8 * n / 2 ^ (56 - 8 * k) % 256 : Nat) : Int) := by
          rw [Nat.mul_comm 8 n]
          simp only [Int.natCast_emod, Int.natCast_ediv, Int.natCast_mul, Int.natCast_pow]
          rfl
        rw [ev]
        refine ⟨k + 1, _, by omega, by go_num, rfl, ?_, (tch.setCell _).drew⟩
        exact (heap_setCell_same _ _ _ _ _ _ HQ.out).trans (by rw [hs_set_rest _ _ _ _ _ rfl hrl (by omega), lenk, Hr.out])
      case measure => simp [intOf]; omega
    · have hk8 : k = 8 := by omega
      have HE : Hid (r = lenk (List.replicate 64 0) n 8) := by rw [hk8] at Hr; exact Hr
      have hrb2 : Byt r := by rw [HE.out]; exact lenk_byt _ _ (fun x hx => by have : x = 0 := List.eq_of_mem_replicate hx; omega) 8
      clear hk8 Hr
      obtain ⟨p0, p1, p2, p3, p4, p5, p6, p7, hmx⟩ := eight (mixN ks [m0, m1, m2, m3, m4, m5, m6, m7] r) rfl
      have HP : Hid (mixN ks [m0, m1, m2, m3, m4, m5, m6, m7] r = [p0, p1, p2, p3, p4, p5, p6, p7]) := hmx
      clear hmx
      have c0 : wr.cell? ⟨g, 0, none⟩ = some (.int .u32 (m0 : Int)) := by rw [cell_of_row wr _ _ _ _ _ HQ.out, hs_state _ _ _ rfl 0 (by decide)]; rfl
      have c1 : wr.cell? ⟨g, 1, none⟩ = some (.int .u32 (m1 : Int)) := by rw [cell_of_row wr _ _ _ _ _ HQ.out, hs_state _ _ _ rfl 1 (by decide)]; rfl
      have c2 : wr.cell? ⟨g, 2, none⟩ = some (.int .u32 (m2 : Int)) := by rw [cell_of_row wr _ _ _ _ _ HQ.out, hs_state _ _ _ rfl 2 (by decide)]; rfl
      have c3 : wr.cell? ⟨g, 3, none⟩ = some (.int .u32 (m3 : Int)) := by rw [cell_of_row wr _ _ _ _ _ HQ.out, hs_state _ _ _ rfl 3 (by decide)]; rfl
      have c4 : wr.cell? ⟨g, 4, none⟩ = some (.int .u32 (m4 : Int)) := by rw [cell_of_row wr _ _ _ _ _ HQ.out, hs_state _ _ _ rfl 4 (by decide)]; rfl
      have c5 : wr.cell? ⟨g, 5, none⟩ = some (.int .u32 (m5 : Int)) := by rw [cell_of_row wr _ _ _ _ _ HQ.out, hs_state _ _ _ rfl 5 (by decide)]; rfl
      have c6 : wr.cell? ⟨g, 6, none⟩ = some (.int .u32 (m6 : Int)) := by rw [cell_of_row wr _ _ _ _ _ HQ.out, hs_state _ _ _ rfl 6 (by decide)]; rfl
      have c7 : wr.cell? ⟨g, 7, none⟩ = some (.int .u32 (m7 : Int)) := by rw [cell_of_row wr _ _ _ _ _ HQ.out, hs_state _ _ _ rfl 7 (by decide)]; rfl
      have hgr : g < wr.heap.size := Nat.lt_of_lt_of_le hgl tch.size
      have hmix := hm [m0, m1, m2, m3, m4, m5, m6, m7] r rfl hmw hrb2 g 8 64 (by decide) (by unfold maxLen; decide) wr.drew hgr (Nat.lt_of_lt_of_le hg1 tch.size)
        (fun j hj => by show wr.cell? _ = _; rw [cell_of_row wr _ _ _ _ _ HQ.out, hs_rest _ _ _ rfl hrl j hj])
        (fun j hj => (World.cell?_of_block (w := w) (tch.block 4 hg1 (Ne.symm hg))).trans (hK.out j hj))
      have HC : Hid (Calls Tryd.prog 58 #[.agg (ws [m0, m1, m2, m3, m4, m5, m6, m7]), .slice (some ⟨g, 8, none⟩) 64 64] wr.drew fun e w' => e = .returned (.agg #[Value.int IntKind.u32 (p0 : Int), Value.int IntKind.u32 (p1 : Int), Value.int IntKind.u32 (p2 : Int), Value.int IntKind.u32 (p3 : Int), Value.int IntKind.u32 (p4 : Int), Value.int IntKind.u32 (p5 : Int), Value.int IntKind.u32 (p6 : Int), Value.int IntKind.u32 (p7 : Int)]) ∧ Below wr.drew.heap.size wr.drew w') := by rw [HP.out] at hmix; exact hmix
      clear hmix
      go_wp2
      go_region_with ((go_at_call 58; refine HC.out.mono ?_; rintro e w' ⟨rfl, hb'⟩; have cc : ∀ j, w'.cell? ⟨g, j, none⟩ = wr.cell? ⟨g, j, none⟩ := (fun j => hb'.cell (p := ⟨g, j, none⟩) hgr); have ff : ∀ j, w'.frozen? ⟨g, j, none⟩ = wr.frozen? ⟨g, j, none⟩ := (fun j => hb'.frozen (p := ⟨g, j, none⟩) hgr)))
      all_goals go_wp2
      all_goals go_end0
      all_goals
        refine ⟨rfl, ?_, ?_⟩
        · rw [← HE.out, ← HR1.out, HM.out, HP.out]
          exact hs_row8 w' g _ r n rfl p0 p1 p2 p3 p4 p5 p6 p7 ((hb'.block g hgr).trans HQ.out)
        · exact (tch.drew.trans (Touch.of_below hb')).trans (touch8 w' g _ _ _ _ _ _ _ _)
end Go.Proofs.YtceclpabdfncoaaDoor.Sha

namespace Go.Proofs.YtceclpabdfncoaaDoor.Sha
open Go.RowKit
def padN (ks st rest : List Nat) (n : Nat) : List Nat :=
  if n % 64 < 56 then mixN ks st (lenk (padR rest (n % 64)) n 8) else mixN ks (mixN ks st (padR rest (n % 64))) (lenk (List.replicate 64 0) n 8)
set_option maxRecDepth 100000 in
theorem pad_any (ks : List Nat) (hm : MixOK ks) (g : Nat) (st rest : List Nat) (n : Nat) (hst : st.length = 8) (hrs : rest.length = 64) (hn : n ≤ 1152921504606846976) (hsw : Wrd st) (hrb : Byt rest) (w : World) (hg : g ≠ 4) (hgl : g < w.heap.size) (hg1 : 4 < w.heap.size)
    (hK : Hid (∀ j, j < 64 → w.cell? ⟨4, j, none⟩ = some (.int .u32 ((ks.getD j 0 : Nat) : Int)))) (hh : Hid (w.heap[g]? = some (.cells (hs st rest n) 99 (0, 0)))) :
    Calls Tryd.prog 59 #[.pointer (some ⟨g, 0, none⟩)] w fun e w' => e = .returned (.tuple #[]) ∧ (∃ r, r.length = 64 ∧ Hid (w'.heap[g]? = some (.cells (hs (padN ks st rest n) r n) 99 (0, 0)))) ∧ Touch g w w' := by
  have hlen : ∀ r : List Nat, r.length = 64 → (lenk r n 8).length = 64 := fun r h => by rw [lenk_len, h]
  by_cases h1 : n % 64 < 56
  · refine (pad_short ks hm g st rest n hst hrs hn hsw hrb w hg hgl hg1 hK hh h1).mono ?_
    rintro e w' ⟨he, hr, ht⟩
    refine ⟨he, ⟨lenk (padR rest (n % 64)) n 8, hlen _ (padR_len _ _ hrs (by omega)), ?_⟩, ht⟩
    unfold padN
    rw [if_pos h1]
    exact hr
  · have hp : padN ks st rest n = mixN ks (mixN ks st (padR rest (n % 64))) (lenk (List.replicate 64 0) n 8) := by unfold padN; rw [if_neg h1]
    by_cases h2 : n % 64 < 63
    · refine (pad_long ks hm g st rest n hst hrs hn hsw hrb w hg hgl hg1 hK hh (by omega) h2).mono ?_
      rintro e w' ⟨he, hr, ht⟩
      refine ⟨he, ⟨lenk (List.replicate 64 0) n 8, hlen _ (by rw [List.length_replicate]), ?_⟩, ht⟩
      rw [hp]
      exact hr
    · refine (pad_last ks hm g st rest n hst hrs hn hsw hrb w hg hgl hg1 hK hh (by omega)).mono ?_
      rintro e w' ⟨he, hr, ht⟩
      refine ⟨he, ⟨lenk (List.replicate 64 0) n 8, hlen _ (by rw [List.length_replicate]), ?_⟩, ht⟩
      rw [hp]
      exact hr
set_option maxRecDepth 100000 in
theorem padN_len (ks st rest : List Nat) (n : Nat) : (padN ks st rest n).length = 8 := by unfold padN; split <;> rfl
set_option maxRecDepth 100000 in
theorem padN_wrd (ks st rest : List Nat) (n : Nat) : Wrd (padN ks st rest n) := by unfold padN; split <;> exact mixN_wrd _ _ _
/-- The state that counts: the first one, where nothing was taken. -/
def begS (sn st : List Nat) (n : Nat) : List Nat := if n = 0 then sn else st
set_option maxRecDepth 100000 in
theorem begin_any (g : Nat) (sn st rest : List Nat) (n : Nat) (hsn : sn.length = 8) (hst : st.length = 8) (hrs : rest.length = 64) (w : World) (hS : Hid (∀ j, j < 8 → w.cell? ⟨3, j, none⟩ = some (.int .u32 ((sn.getD j 0 : Nat) : Int)))) (hh : Hid (w.heap[g]? = some (.cells (hs st rest n) 99 (0, 0)))) :
    Calls Tryd.prog 57 #[.pointer (some ⟨g, 0, none⟩)] w fun e w' => e = .returned (.tuple #[]) ∧ Hid (w'.heap[g]? = some (.cells (hs (begS sn st n) rest n) 99 (0, 0))) ∧ Touch g w w' := by
  by_cases h0 : n = 0
  · subst h0
    obtain ⟨a, b, c, d, e, f, i, j, rfl⟩ := eight sn hsn
    exact begin_new g st rest hst hrs a b c d e f i j w hh (hS.out 0 (by decide)) (hS.out 1 (by decide)) (hS.out 2 (by decide)) (hS.out 3 (by decide)) (hS.out 4 (by decide)) (hS.out 5 (by decide)) (hS.out 6 (by decide)) (hS.out 7 (by decide))
  · refine (begin_go g st rest n hst hrs (by omega) w hh).mono fun e w' ⟨he, hw⟩ => ?_
    subst hw
    refine ⟨he, ?_, Touch.refl _ _⟩
    unfold begS
    rw [if_neg h0]
    exact hh
attribute [local go_sem] zero43
set_option maxRecDepth 100000 in
set_option maxHeartbeats 1000000 in
theorem sum_of (ks sn : List Nat) (hm : MixOK ks) (hsn : sn.length = 8) (hsnw : Wrd sn) (g : Nat) (st rest : List Nat) (n : Nat) (hst : st.length = 8) (hrs : rest.length = 64) (hn : n ≤ 1152921504606846976) (hsw : Wrd st) (hrb : Byt rest) (w : World) (hg1 : 4 < w.heap.size)
    (hS : Hid (∀ j, j < 8 → w.cell? ⟨3, j, none⟩ = some (.int .u32 ((sn.getD j 0 : Nat) : Int)))) (hK : Hid (∀ j, j < 64 → w.cell? ⟨4, j, none⟩ = some (.int .u32 ((ks.getD j 0 : Nat) : Int)))) (hh : Hid (w.heap[g]? = some (.cells (hs st rest n) 99 (0, 0)))) :
    Calls Tryd.prog 41 #[.pointer (some ⟨g, 0, none⟩)] w fun e w' => e = .returned (.agg (bs (sumS (padN ks (begS sn st n) rest n)))) ∧ Below w.heap.size w w' := by
  have hz' : (hs st rest n).size = 73 := hs_size _ _ _ hst hrs
  have hgl : g < w.heap.size := (Array.getElem?_eq_some_iff.1 hh.out).1
  go_enter Tryd.func41, Tryd.ntmps41
  go_wp2_with (first
    | refine wpList_load_row rfl 99 _ rfl _ rfl 99 _ (0, 0) _ (by exact (heap_alloc_old _ _ (h := hgl)).trans hh.out) Tryd.underlying99 rfl (by rw [size43, hz']) ?_
    | refine wpList_store_row rfl 99 _ _ rfl _ _ rfl rfl 99 _ (by exact alloc_at _ _ _ (by simp)) (by rw [size43, hz']) (by rw [hz']; rfl) (hs_one _ _ _) ?_
    | fail)
  try rw [zc76]
  generalize hW : ((w.alloc (Obj.cells _ 57)).alloc (Obj.cells hz 99)).setRow (w.heap.size + 1) (hs st rest n) = W1
  have rowR : Hid (W1.heap[w.heap.size]? = some (.cells (bs z32) 57 (0, 0))) := by rw [← hW]; exact (setRow_other _ _ _ _ (by omega)).trans (heap_alloc2_old _ _ _)
  have row1 : Hid (W1.heap[w.heap.size + 1]? = some (.cells (hs st rest n) 99 (0, 0))) := by rw [← hW]; exact setRow_heap _ _ _ _ _ _ (heap_alloc2_new _ _ _)
  have bel1 : Below w.heap.size w W1 := by rw [← hW]; exact below_setRow (((Below.refl _ _).alloc (Nat.le_refl _) _).alloc (by simp) _) (by omega) _
  have hs1 : w.heap.size + 2 = W1.heap.size := by rw [← hW]; simp
  clear hW
  have hs1' : w.heap.size + 1 < W1.heap.size := by omega
  clear hs1
  refine (begin_any (w.heap.size + 1) sn st rest n hsn hst hrs W1 (fun j hj => (bel1.cell (by simp; omega)).trans (hS.out j hj)) row1).mono ?_
  rintro e W2 ⟨rfl, row2, tch2⟩
  have bl : (begS sn st n).length = 8 := by unfold begS; split <;> assumption
  have bw : Wrd (begS sn st n) := by unfold begS; split <;> assumption
  go_wp2_with fail
  have hs2 : w.heap.size + 1 < W2.heap.size := Nat.lt_of_lt_of_le hs1' tch2.size
  refine (pad_any ks hm (w.heap.size + 1) (begS sn st n) rest n bl hrs hn bw hrb W2 (by omega) hs2 (by omega) (fun j hj => (World.cell?_of_block (w := W1) (tch2.block 4 (by omega) (by omega))).trans ((bel1.cell (by simpa using hg1)).trans (hK.out j hj))) row2).mono ?_
  rintro e W3 ⟨rfl, ⟨r, hrl, row3⟩, tch3⟩
  obtain ⟨p0, p1, p2, p3, p4, p5, p6, p7, hp⟩ := eight (padN ks (begS sn st n) rest n) (padN_len _ _ _ _)
  have hpw : Wrd [p0, p1, p2, p3, p4, p5, p6, p7] := by rw [← hp]; exact padN_wrd _ _ _ _
  have HP : Hid (padN ks (begS sn st n) rest n = [p0, p1, p2, p3, p4, p5, p6, p7]) := hp
  rw [hp] at row3
  clear hp
  have c0 : W3.cell? ⟨w.heap.size + 1, 0, none⟩ = some (.int .u32 (p0 : Int)) := by rw [cell_of_row W3 _ _ _ _ _ row3.out, hs_state _ _ _ rfl 0 (by decide)]; rfl
  have c1 : W3.cell? ⟨w.heap.size + 1, 1, none⟩ = some (.int .u32 (p1 : Int)) := by rw [cell_of_row W3 _ _ _ _ _ row3.out, hs_state _ _ _ rfl 1 (by decide)]; rfl
  have c2 : W3.cell? ⟨w.heap.size + 1, 2, none⟩ = some (.int .u32 (p2 : Int)) := by rw [cell_of_row W3 _ _ _ _ _ row3.out, hs_state _ _ _ rfl 2 (by decide)]; rfl
  have c3 : W3.cell? ⟨w.heap.size + 1, 3, none⟩ = some (.int .u32 (p3 : Int)) := by rw [cell_of_row W3 _ _ _ _ _ row3.out, hs_state _ _ _ rfl 3 (by decide)]; rfl
  have c4 : W3.cell? ⟨w.heap.size + 1, 4, none⟩ = some (.int .u32 (p4 : Int)) := by rw [cell_of_row W3 _ _ _ _ _ row3.out, hs_state _ _ _ rfl 4 (by decide)]; rfl
  have c5 : W3.cell? ⟨w.heap.size + 1, 5, none⟩ = some (.int .u32 (p5 : Int)) := by rw [cell_of_row W3 _ _ _ _ _ row3.out, hs_state _ _ _ rfl 5 (by decide)]; rfl
  have c6 : W3.cell? ⟨w.heap.size + 1, 6, none⟩ = some (.int .u32 (p6 : Int)) := by rw [cell_of_row W3 _ _ _ _ _ row3.out, hs_state _ _ _ rfl 6 (by decide)]; rfl
  have c7 : W3.cell? ⟨w.heap.size + 1, 7, none⟩ = some (.int .u32 (p7 : Int)) := by rw [cell_of_row W3 _ _ _ _ _ row3.out, hs_state _ _ _ rfl 7 (by decide)]; rfl
  go_wp2_with fail
  refine (sum_any [p0, p1, p2, p3, p4, p5, p6, p7] rfl hpw _).mono ?_
  rintro e W4 ⟨rfl, bel4⟩
  have hs3 : w.heap.size + 1 < W3.heap.size := Nat.lt_of_lt_of_le hs2 tch3.size
  have rowR4 : Hid (W4.heap[w.heap.size]? = some (.cells (bs z32) 57 (0, 0))) := (bel4.block _ (by omega)).trans ((tch3.block _ (by omega) (by omega)).trans ((tch2.block _ (by omega) (by omega)).trans rowR.out))
  have sl := sumS_len [p0, p1, p2, p3, p4, p5, p6, p7]
  go_wp2_with (refine wpList_store_row rfl 57 _ _ rfl _ _ rfl rfl 57 _ (by exact rowR4.out) (by rw [size28, bs_size, sl]) (by rw [bs_size, bs_size, sl]; rfl) (bs_one _) ?_)
  have hres : (W4.setRow w.heap.size (bs (sumS [p0, p1, p2, p3, p4, p5, p6, p7]))).heap[w.heap.size]? = some (.cells (bs (sumS [p0, p1, p2, p3, p4, p5, p6, p7])) 57 (0, 0)) := setRow_heap _ _ _ _ _ _ rowR4.out
  refine bodyPost_ret (v := .agg (bs (sumS [p0, p1, p2, p3, p4, p5, p6, p7]))) (results_cell_row rfl _ _ w.heap.size 57 _ (0, 0) _ rfl hres Tryd.underlying57 rfl (by rw [size28, bs_size, sl])) rfl ⟨?_, ?_⟩
  · rw [HP.out]
  · exact below_setRow ((bel1.trans ((tch2.trans tch3).below (by omega) (by omega))).trans (bel4.mono (by omega))) (Nat.le_refl _) _
end Go.Proofs.YtceclpabdfncoaaDoor.Sha
