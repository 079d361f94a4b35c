import Derived.Test.YtageaeebiopmbaaDoorShClear
import Derived.BigRegion
namespace Go.Proofs.YtageaeebiopmbaaDoor.Sha
open Go.RowKit
def padR (rest : List Nat) (u : Nat) : List Nat := rest.take u ++ 128 :: List.replicate (63 - u) 0
set_option maxRecDepth 100000 in
theorem padR_len (rest : List Nat) (u : Nat) (hrs : rest.length = 64) (hu : u < 64) : (padR rest u).length = 64 := by simp [padR, hrs]; omega
/-- The message's length, laid into the last eight bytes. -/
def lenk (r : List Nat) (n : Nat) : Nat → List Nat
  | 0 => r
  | k + 1 => (lenk r n k).set (56 + k) (8 * n / 2 ^ (56 - 8 * k) % 256)
set_option maxRecDepth 100000 in
theorem lenk_len (r : List Nat) (n : Nat) : ∀ k, (lenk r n k).length = r.length
  | 0 => rfl
  | k + 1 => by simp [lenk, lenk_len r n k]
set_option maxRecDepth 100000 in
theorem hs_set_rest (st rest : List Nat) (n i b : Nat) (hst : st.length = 8) (hrs : rest.length = 64) (hi : i < 64) : (hs st rest n).setIfInBounds (8 + i) (Value.int .u8 (b : Int)) = hs st (rest.set i b) n := by
  simp only [hs, List.setIfInBounds_toArray]
  rw [List.set_append_right _ _ (by simp [hst]), List.set_append_left _ _ (by simp [hst, hrs, hi])]
  simp [hst, List.map_set]
set_option maxRecDepth 100000 in
theorem padR_byt (rest : List Nat) (u : Nat) (hb : Byt rest) : Byt (padR rest u) := by
  intro x hx
  simp only [padR, List.mem_append, List.mem_cons] at hx
  rcases hx with h | h | h
  · exact hb x (List.mem_of_mem_take h)
  · omega
  · have : x = 0 := List.eq_of_mem_replicate h
    omega
set_option maxRecDepth 100000 in
theorem lenk_byt (r : List Nat) (n : Nat) (hb : Byt r) : ∀ k, Byt (lenk r n k)
  | 0 => hb
  | k + 1 => byt_set (lenk_byt r n hb k) _ _ (Nat.mod_lt _ (by decide))
set_option maxRecDepth 100000 in
theorem eight (l : List Nat) (h : l.length = 8) : ∃ a b c d e f g i, l = [a, b, c, d, e, f, g, i] := by
  match l, h with
  | [a, b, c, d, e, f, g, i], _ => exact ⟨a, b, c, d, e, f, g, i, rfl⟩
def MixOK (ks : List Nat) : Prop := ∀ (st blk : List Nat), st.length = 8 → Wrd st → Byt blk → ∀ (b off cap : Nat), 64 ≤ cap → cap ≤ maxLen → ∀ (w : World), b < w.heap.size → 4 < w.heap.size →
    Hid (∀ j, j < 64 → w.cell? ⟨b, off + j, none⟩ = some (.int .u8 ((blk.getD j 0 : Nat) : Int))) → Hid (∀ j, j < 64 → w.cell? ⟨4, j, none⟩ = some (.int .u32 ((ks.getD j 0 : Nat) : Int))) →
    Calls Tryd.prog 40 #[.agg (ws st), .slice (some ⟨b, off, none⟩) 64 cap] w fun e w' => e = .returned (.agg (ws (mixN ks st blk))) ∧ Below w.heap.size w w'
set_option maxRecDepth 100000 in
set_option maxHeartbeats 1000000 in
theorem pad_short (ks : List Nat) (hm : MixOK ks) (g : Nat) (st rest : List Nat) (n : Nat) (hst : st.length = 8) (hrs : rest.length = 64) (hn : n ≤ 1152921504606846976) (hsw : Wrd st) (hrb : Byt rest) (w : World) (hg : g ≠ 4) (hgl : g < w.heap.size) (hg1 : 4 < w.heap.size) (hK : Hid (∀ j, j < 64 → w.cell? ⟨4, j, none⟩ = some (.int .u32 ((ks.getD j 0 : Nat) : Int)))) (hh : Hid (w.heap[g]? = some (.cells (hs st rest n) 78 (0, 0)))) (hu : n % 64 < 56) :
    Calls Tryd.prog 41 #[.pointer (some ⟨g, 0, none⟩)] w fun e w' => e = .returned (.tuple #[]) ∧ Hid (w'.heap[g]? = some (.cells (hs (mixN ks st (lenk (padR rest (n % 64)) n 8)) (lenk (padR rest (n % 64)) n 8) n) 78 (0, 0))) ∧ Touch g w w' := by
  have cn : w.cell? ⟨g, 72, none⟩ = some (.int .i64 (n : Int)) := by rw [cell_of_row w _ _ _ _ _ hh.out, hs_len _ _ _ hst hrs]
  have cu : w.cell? ⟨g, 8 + n % 64, none⟩ = some (.int .u8 ((rest.getD (n % 64) 0 : Nat) : Int)) := by rw [cell_of_row w _ _ _ _ _ hh.out, hs_rest _ _ _ hst hrs _ (by omega)]
  have fz : ∀ i, w.frozen? ⟨g, i, none⟩ = false := fun i => frozen_of_row w _ i _ _ hh.out
  obtain ⟨W2, hcl, row2, tch2⟩ : ∃ W2, (∀ ty, (Builtin.clear_ #[48] ty #[.slice (some ⟨g, 8 + (n % 64 + 1), none⟩) (63 - n % 64) (63 - n % 64)]).run Tryd.prog (w.setCell ⟨g, 8 + n % 64, none⟩ (.int .u8 128)) = .ok (.tuple #[]) W2) ∧ Hid (W2.heap[g]? = some (.cells (hs st (padR rest (n % 64)) n) 78 (0, 0))) ∧ Touch g w W2 := by
    have hrow := heap_setCell_same w g (8 + n % 64) _ _ (.int .u8 128) hh.out
    refine ⟨_, fun ty => run_clear_row _ ty g (8 + (n % 64 + 1)) (63 - n % 64) _ 78 _ hrow (by rw [Array.size_setIfInBounds, hs_size _ _ _ hst hrs]; omega), ?_, ?_⟩
    · have := setRow_heap _ _ _ (((hs st rest n).setIfInBounds (8 + n % 64) (Value.int .u8 128)).toList.take (8 + (n % 64 + 1)) ++ List.replicate (63 - n % 64) (Value.int .u8 0) ++ ((hs st rest n).setIfInBounds (8 + n % 64) (Value.int .u8 128)).toList.drop (8 + (n % 64 + 1) + (63 - n % 64))).toArray _ _ hrow
      rw [hs_clear st rest n (n % 64) hst hrs (by omega)] at this
      rw [hs_clear st rest n (n % 64) hst hrs (by omega)]
      exact this
    · exact ((Touch.refl g w).setCell _).setRow _
  have cn2 : W2.cell? ⟨g, 72, none⟩ = some (.int .i64 (n : Int)) := by rw [cell_of_row W2 _ _ _ _ _ row2.out, hs_len _ _ _ hst (padR_len _ _ hrs (by omega))]
  have hn' : (n : Int) ≤ 1152921504606846976 := by omega
  have hn0 : (0 : Int) ≤ (n : Int) := by omega
  have hu' : (n : Int) % 64 < 56 := by omega
  have hal : Tryd.prog.arrayLen 76 = 64 := by kernel_rfl
  have hu0 : (0 : Int) ≤ (n : Int) % 64 + 1 := by omega
  have hu1 : (n : Int) % 64 + 1 ≤ 64 := by omega
  have hu2 : ((n : Int) % 64 + 1).toNat = n % 64 + 1 := by omega
  have hu3 : ((n : Int) % 64 + 1).toNat ≠ 64 := by omega
  go_enter Tryd.func41, Tryd.ntmps41
  go_wp2_with fail
  go_loopw [45] (fun i wr => ∃ (k : Nat) (r : List Nat), k ≤ 8 ∧ i = .int .i64 k ∧ Hid (r = lenk (padR rest (n % 64)) n k) ∧ Hid (wr.heap[g]? = some (.cells (hs st r n) 78 (0, 0))) ∧ Touch g w wr) (fun i _ => 8 - (intOf i).toNat)
  case atStart => exact ⟨0, _, by omega, rfl, rfl, row2, tch2⟩
  case round =>
    clear hcl cn cu cn2 fz row2 tch2
    obtain ⟨k, r, hk, rfl, Hr, HQ, tch⟩ := hrel
    have hrl : r.length = 64 := by rw [Hr.out, lenk_len, padR_len _ _ hrs (by omega)]
    have fz : ∀ i, wr.frozen? ⟨g, i, none⟩ = false := fun i => frozen_of_row wr _ i _ _ HQ.out
    by_cases hlt : k < 8
    · have ck : wr.cell? ⟨g, 8 + (56 + k), none⟩ = some (.int .u8 ((r.getD (56 + k) 0 : Nat) : Int)) := by rw [cell_of_row wr _ _ _ _ _ HQ.out, hs_rest _ _ _ hst hrl _ (by omega)]
      have hk1 : (k : Int) < 8 := by omega
      have hk0 : (0 : Int) ≤ (k : Int) := by omega
      have hk2 : (0 : Int) ≤ 56 - 8 * (k : Int) := by omega
      have hk3 : (56 : Int) + (k : Int) < 64 := by omega
      have hk4 : (0 : Int) ≤ 56 + (k : Int) := by omega
      go_wp2
      go_region
      go_wp2
      go_roundw
      case rel =>
        have ev : ((n : Int) * 8 / 2 ^ (56 - 8 * k) % 256) = ((8 * n / 2 ^ (56 - 8 * k) % 256 : Nat) : Int) := by
          rw [Nat.mul_comm 8 n]
          simp only [Int.natCast_emod, Int.natCast_ediv, Int.natCast_mul, Int.natCast_pow]
          rfl
        rw [ev]
        refine ⟨k + 1, _, by omega, by go_num, rfl, ?_, (tch.setCell _).drew⟩
        exact (heap_setCell_same _ _ _ _ _ _ HQ.out).trans (by rw [hs_set_rest _ _ _ _ _ hst hrl (by omega), lenk, Hr.out])
      case measure => simp [intOf]; omega
    · have hk8 : k = 8 := by omega
      have HE : Hid (r = lenk (padR rest (n % 64)) n 8) := by rw [hk8] at Hr; exact Hr
      have hrb2 : Byt r := by rw [HE.out]; exact lenk_byt _ _ (padR_byt _ _ hrb) 8
      clear hk8 Hr
      obtain ⟨s0, s1, s2, s3, s4, s5, s6, s7, rfl⟩ := eight st hst
      obtain ⟨m0, m1, m2, m3, m4, m5, m6, m7, hmx⟩ := eight (mixN ks [s0, s1, s2, s3, s4, s5, s6, s7] r) rfl
      have HM : Hid (mixN ks [s0, s1, s2, s3, s4, s5, s6, s7] r = [m0, m1, m2, m3, m4, m5, m6, m7]) := hmx
      clear hmx
      have c0 : wr.cell? ⟨g, 0, none⟩ = some (.int .u32 (s0 : Int)) := by rw [cell_of_row wr _ _ _ _ _ HQ.out, hs_state _ _ _ rfl 0 (by decide)]; rfl
      have c1 : wr.cell? ⟨g, 1, none⟩ = some (.int .u32 (s1 : Int)) := by rw [cell_of_row wr _ _ _ _ _ HQ.out, hs_state _ _ _ rfl 1 (by decide)]; rfl
      have c2 : wr.cell? ⟨g, 2, none⟩ = some (.int .u32 (s2 : Int)) := by rw [cell_of_row wr _ _ _ _ _ HQ.out, hs_state _ _ _ rfl 2 (by decide)]; rfl
      have c3 : wr.cell? ⟨g, 3, none⟩ = some (.int .u32 (s3 : Int)) := by rw [cell_of_row wr _ _ _ _ _ HQ.out, hs_state _ _ _ rfl 3 (by decide)]; rfl
      have c4 : wr.cell? ⟨g, 4, none⟩ = some (.int .u32 (s4 : Int)) := by rw [cell_of_row wr _ _ _ _ _ HQ.out, hs_state _ _ _ rfl 4 (by decide)]; rfl
      have c5 : wr.cell? ⟨g, 5, none⟩ = some (.int .u32 (s5 : Int)) := by rw [cell_of_row wr _ _ _ _ _ HQ.out, hs_state _ _ _ rfl 5 (by decide)]; rfl
      have c6 : wr.cell? ⟨g, 6, none⟩ = some (.int .u32 (s6 : Int)) := by rw [cell_of_row wr _ _ _ _ _ HQ.out, hs_state _ _ _ rfl 6 (by decide)]; rfl
      have c7 : wr.cell? ⟨g, 7, none⟩ = some (.int .u32 (s7 : Int)) := by rw [cell_of_row wr _ _ _ _ _ HQ.out, hs_state _ _ _ rfl 7 (by decide)]; rfl
      have hgr : g < wr.heap.size := Nat.lt_of_lt_of_le hgl tch.size
      have hmix := hm [s0, s1, s2, s3, s4, s5, s6, s7] r rfl hsw hrb2 g 8 64 (by decide) (by unfold maxLen; decide) wr.drew hgr (Nat.lt_of_lt_of_le hg1 tch.size)
        (fun j hj => by show wr.cell? _ = _; rw [cell_of_row wr _ _ _ _ _ HQ.out, hs_rest _ _ _ rfl hrl j hj])
        (fun j hj => (World.cell?_of_block (w := w) (tch.block 4 hg1 (Ne.symm hg))).trans (hK.out j hj))
      have HC : Hid (Calls Tryd.prog 40 #[.agg (ws [s0, s1, s2, s3, s4, s5, s6, s7]), .slice (some ⟨g, 8, none⟩) 64 64] wr.drew fun e w' => e = .returned (.agg #[Value.int IntKind.u32 (m0 : Int), Value.int IntKind.u32 (m1 : Int), Value.int IntKind.u32 (m2 : Int), Value.int IntKind.u32 (m3 : Int), Value.int IntKind.u32 (m4 : Int), Value.int IntKind.u32 (m5 : Int), Value.int IntKind.u32 (m6 : Int), Value.int IntKind.u32 (m7 : Int)]) ∧ Below wr.drew.heap.size wr.drew w') := by rw [HM.out] at hmix; exact hmix
      clear hmix
      go_wp2
      go_region_with ((go_at_call 40; refine HC.out.mono ?_; rintro e w' ⟨rfl, hb'⟩; have cc : ∀ j, w'.cell? ⟨g, j, none⟩ = wr.cell? ⟨g, j, none⟩ := (fun j => hb'.cell (p := ⟨g, j, none⟩) hgr); have ff : ∀ j, w'.frozen? ⟨g, j, none⟩ = wr.frozen? ⟨g, j, none⟩ := (fun j => hb'.frozen (p := ⟨g, j, none⟩) hgr)))
      all_goals go_wp2
      all_goals go_end0
      all_goals
        refine ⟨rfl, ?_, ?_⟩
        · rw [← HE.out, HM.out]
          exact hs_row8 w' g _ r n rfl m0 m1 m2 m3 m4 m5 m6 m7 ((hb'.block g hgr).trans HQ.out)
        · exact (tch.drew.trans (Touch.of_below hb')).trans (touch8 w' g _ _ _ _ _ _ _ _)
end Go.Proofs.YtageaeebiopmbaaDoor.Sha
