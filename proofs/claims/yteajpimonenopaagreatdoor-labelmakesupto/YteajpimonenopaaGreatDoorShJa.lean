/- Several texts in one: ShBegin, ShObjs, ShClear, ShPad. -/
import Derived.Test.YteajpimonenopaaGreatDoorShHasher
import Derived.Lib.SliceRun
import Derived.BigRegion
namespace Go.Proofs.YteajpimonenopaaGreatDoor.Sha
open Go.RowKit
theorem set_row {w : World} {g t i : Nat} {cs : Array Value} (v : Value) (h : w.heap[g]? = some (.cells cs t (0, 0))) : (w.setCell ⟨g, i, none⟩ v).heap[g]? = some (.cells (cs.setIfInBounds i v) t (0, 0)) := heap_setCell_same _ _ _ _ _ _ h
theorem hs_set8 (st rest : List Nat) (n : Nat) (hst : st.length = 8) (s0 s1 s2 s3 s4 s5 s6 s7 : Nat) :
    ((((((((hs st rest n).setIfInBounds 0 (.int .u32 (s0 : Int))).setIfInBounds 1 (.int .u32 (s1 : Int))).setIfInBounds 2 (.int .u32 (s2 : Int))).setIfInBounds 3 (.int .u32 (s3 : Int))).setIfInBounds 4 (.int .u32 (s4 : Int))).setIfInBounds 5 (.int .u32 (s5 : Int))).setIfInBounds 6 (.int .u32 (s6 : Int))).setIfInBounds 7 (.int .u32 (s7 : Int)) = hs [s0, s1, s2, s3, s4, s5, s6, s7] rest n := by
  match st, hst with
  | [_, _, _, _, _, _, _, _], _ => simp only [hs, List.map_cons, List.map_nil, List.cons_append, List.nil_append, List.setIfInBounds_toArray, List.set_cons_zero, List.set_cons_succ]
theorem hs_row8 (w : World) (g : Nat) (st rest : List Nat) (n : Nat) (hst : st.length = 8) (s0 s1 s2 s3 s4 s5 s6 s7 : Nat) (h : w.heap[g]? = some (.cells (hs st rest n) 66 (0, 0))) :
    ((((((((w.setCell ⟨g, 0, none⟩ (.int .u32 (s0 : Int))).setCell ⟨g, 1, none⟩ (.int .u32 (s1 : Int))).setCell ⟨g, 2, none⟩ (.int .u32 (s2 : Int))).setCell ⟨g, 3, none⟩ (.int .u32 (s3 : Int))).setCell ⟨g, 4, none⟩ (.int .u32 (s4 : Int))).setCell ⟨g, 5, none⟩ (.int .u32 (s5 : Int))).setCell ⟨g, 6, none⟩ (.int .u32 (s6 : Int))).setCell ⟨g, 7, none⟩ (.int .u32 (s7 : Int))).heap[g]? = some (.cells (hs [s0, s1, s2, s3, s4, s5, s6, s7] rest n) 66 (0, 0)) := by
  rw [← hs_set8 st rest n hst s0 s1 s2 s3 s4 s5 s6 s7]
  exact set_row (i := 7) _ (set_row (i := 6) _ (set_row (i := 5) _ (set_row (i := 4) _ (set_row (i := 3) _ (set_row (i := 2) _ (set_row (i := 1) _ (set_row (i := 0) _ h)))))))
theorem touch8 (w : World) (g : Nat) (v0 v1 v2 v3 v4 v5 v6 v7 : Value) :
    Touch g w ((((((((w.setCell ⟨g, 0, none⟩ v0).setCell ⟨g, 1, none⟩ v1).setCell ⟨g, 2, none⟩ v2).setCell ⟨g, 3, none⟩ v3).setCell ⟨g, 4, none⟩ v4).setCell ⟨g, 5, none⟩ v5).setCell ⟨g, 6, none⟩ v6).setCell ⟨g, 7, none⟩ v7) :=
  ((((((((Touch.refl g w).setCell v0).setCell v1).setCell v2).setCell v3).setCell v4).setCell v5).setCell v6).setCell v7
set_option maxHeartbeats 1000000 in
theorem begin_go (g : Nat) (st rest : List Nat) (n : Nat) (hst : st.length = 8) (hrs : rest.length = 64) (hn : (n : Int) ≠ 0) (w : World) (hh : Hid (w.heap[g]? = some (.cells (hs st rest n) 66 (0, 0)))) :
    Calls Tryz.prog 51 #[.pointer (some ⟨g, 0, none⟩)] w fun e w' => e = .returned (.tuple #[]) ∧ w' = w := by
  have cn : w.cell? ⟨g, 72, none⟩ = some (.int .i64 (n : Int)) := by rw [cell_of_row w _ _ _ _ _ hh.out, hs_len _ _ _ hst hrs]
  go_enter Tryz.func51, Tryz.ntmps51
  go_wp2
  go_end0
  exact ⟨rfl, rfl⟩
set_option maxHeartbeats 1000000 in
theorem begin_new (g : Nat) (st rest : List Nat) (hst : st.length = 8) (hrs : rest.length = 64) (s0 s1 s2 s3 s4 s5 s6 s7 : Nat) (w : World) (hh : Hid (w.heap[g]? = some (.cells (hs st rest 0) 66 (0, 0))))
    (k0 : w.cell? ⟨4, 0, none⟩ = some (.int .u32 (s0 : Int))) (k1 : w.cell? ⟨4, 1, none⟩ = some (.int .u32 (s1 : Int))) (k2 : w.cell? ⟨4, 2, none⟩ = some (.int .u32 (s2 : Int))) (k3 : w.cell? ⟨4, 3, none⟩ = some (.int .u32 (s3 : Int)))
    (k4 : w.cell? ⟨4, 4, none⟩ = some (.int .u32 (s4 : Int))) (k5 : w.cell? ⟨4, 5, none⟩ = some (.int .u32 (s5 : Int))) (k6 : w.cell? ⟨4, 6, none⟩ = some (.int .u32 (s6 : Int))) (k7 : w.cell? ⟨4, 7, none⟩ = some (.int .u32 (s7 : Int))) :
    Calls Tryz.prog 51 #[.pointer (some ⟨g, 0, none⟩)] w fun e w' => e = .returned (.tuple #[]) ∧ w'.heap[g]? = some (.cells (hs [s0, s1, s2, s3, s4, s5, s6, s7] rest 0) 66 (0, 0)) ∧ Touch g w w' := by
  have cn : w.cell? ⟨g, 72, none⟩ = some (.int .i64 0) := by rw [cell_of_row w _ _ _ _ _ hh.out, hs_len _ _ _ hst hrs]; rfl
  have cs : ∀ i, i < 8 → w.cell? ⟨g, i, none⟩ = some (.int .u32 ((st.getD i 0 : Nat) : Int)) := fun i hi => by rw [cell_of_row w _ _ _ _ _ hh.out, hs_state _ _ _ hst i hi]
  have c0 := cs 0 (by decide)
  have c1 := cs 1 (by decide)
  have c2 := cs 2 (by decide)
  have c3 := cs 3 (by decide)
  have c4 := cs 4 (by decide)
  have c5 := cs 5 (by decide)
  have c6 := cs 6 (by decide)
  have c7 := cs 7 (by decide)
  have fz : ∀ i, w.frozen? ⟨g, i, none⟩ = false := fun i => frozen_of_row w _ i _ _ hh.out
  clear cs
  go_enter Tryz.func51, Tryz.ntmps51
  go_wp2
  go_end0
  exact ⟨rfl, hs_row8 w g st rest 0 hst s0 s1 s2 s3 s4 s5 s6 s7 hh.out, touch8 w g _ _ _ _ _ _ _ _⟩
end Go.Proofs.YteajpimonenopaaGreatDoor.Sha

namespace Go.Proofs.YteajpimonenopaaGreatDoor.Sha
open Go.RowKit
theorem size43 : (Tryz.prog.info? 66).map (·.size) = some 73 := by kernel_rfl
theorem hs_one (st rest : List Nat) (n : Nat) : (hs st rest n).all (·.oneCell') = true := by
  simp [hs, Value.oneCell']
def hz : Array Value := hs (List.replicate 8 0) (List.replicate 64 0) 0
theorem zero43 (w : World) : Sem.run Tryz.prog (zeroValue 66) w = .ok (.agg hz) w := by kernel_rfl
theorem zc76 : Tryz.zeroCells66 = hz := by kernel_rfl
attribute [local go_sem] zero43
end Go.Proofs.YteajpimonenopaaGreatDoor.Sha

namespace Go.Proofs.YteajpimonenopaaGreatDoor.Sha
open Go.RowKit
theorem zero5 (w : World) : (zeroValue 5).run Tryz.prog w = .ok (.int .u8 0) w := by kernel_rfl
/-- clear on a part of a row. -/
theorem run_clear_row (w : World) (ty g o m c t : Nat) (cur : Array Value) (hg : w.heap[g]? = some (.cells cur t (0, 0))) (hm : o + m ≤ cur.size) :
    (Builtin.clear_ #[22] ty #[.slice (some ⟨g, o, none⟩) m c]).run Tryz.prog w = .ok (.tuple #[]) (w.setRow g (cur.toList.take o ++ List.replicate m (Value.int .u8 0) ++ cur.toList.drop (o + m)).toArray) := by
  have hs := run_storeCells_at (P := Tryz.prog) g o t (List.replicate m (Value.int .u8 0)) 0 cur w hg (by simpa using hm) (fun v hv => by rw [List.eq_of_mem_replicate hv]; rfl)
  simp only [Nat.add_zero, List.length_replicate] at hs
  cases m with
  | zero =>
    have e : w.setRow g (cur.toList.take o ++ List.replicate 0 (Value.int .u8 0) ++ cur.toList.drop (o + 0)).toArray = w := by
      simp only [List.replicate_zero, List.append_nil, Nat.add_zero, List.take_append_drop, Array.toArray_toList]
      exact setRow_self w g cur t (0, 0) hg
    rw [e]
    simp [Builtin.clear_, run_underlying Tryz.underlying22]
  | succ m =>
    have hz : (Builtin.zeroCells (Value.int .u8 0).cells (m + 1)).toList = List.replicate (m + 1) (Value.int .u8 0) := by
      simp [Builtin.zeroCells, Value.cells]
      apply List.ext_getElem
      · simp
      · intro i h1 h2
        simp [Nat.mod_one]
    simp [Builtin.clear_, run_underlying Tryz.underlying22, hz, hs]
theorem hs_clear (st rest : List Nat) (n u : Nat) (hst : st.length = 8) (hrs : rest.length = 64) (hu : u < 64) :
    (((hs st rest n).setIfInBounds (8 + u) (Value.int .u8 128)).toList.take (8 + (u + 1)) ++ List.replicate (63 - u) (Value.int .u8 0) ++ ((hs st rest n).setIfInBounds (8 + u) (Value.int .u8 128)).toList.drop (8 + (u + 1) + (63 - u))).toArray = hs st (rest.take u ++ 128 :: List.replicate (63 - u) 0) n := by
  have e1 : ((hs st rest n).setIfInBounds (8 + u) (Value.int .u8 128)).toList = st.map (fun (x : Nat) => Value.int .u32 (x : Int)) ++ ((rest.take u).map (fun (x : Nat) => Value.int .u8 (x : Int)) ++ (Value.int .u8 128 :: ((rest.drop (u + 1)).map (fun (x : Nat) => Value.int .u8 (x : Int)) ++ [Value.int .i64 (n : Int)]))) := by
    simp only [hs, List.setIfInBounds_toArray, List.toList_toArray]
    rw [List.set_append_right _ _ (by simp [hst]), List.set_append_left _ _ (by simp [hst, hrs, hu])]
    have : (rest.map (fun (x : Nat) => Value.int .u8 (x : Int))).set (8 + u - (st.map (fun (x : Nat) => Value.int .u32 (x : Int))).length) (Value.int .u8 128) = (rest.take u).map (fun (x : Nat) => Value.int .u8 (x : Int)) ++ Value.int .u8 128 :: (rest.drop (u + 1)).map (fun (x : Nat) => Value.int .u8 (x : Int)) := by
      rw [List.length_map, hst, Nat.add_sub_cancel_left, List.set_eq_take_append_cons_drop, if_pos (by simp [hrs]; omega), List.map_take, List.map_drop]
    rw [this]
    simp
  rw [e1]
  have l1 : (st.map (fun (x : Nat) => Value.int .u32 (x : Int))).length = 8 := by simp [hst]
  have l2 : ((rest.take u).map (fun (x : Nat) => Value.int .u8 (x : Int))).length = u := by rw [List.length_map, List.length_take, hrs]; omega
  have l3 : ((rest.drop (u + 1)).map (fun (x : Nat) => Value.int .u8 (x : Int))).length = 63 - u := by rw [List.length_map, List.length_drop, hrs]; omega
  generalize hA : st.map (fun (x : Nat) => Value.int .u32 (x : Int)) = A at *
  have t1 : (A ++ ((rest.take u).map (fun (x : Nat) => Value.int .u8 (x : Int)) ++ (Value.int .u8 128 :: ((rest.drop (u + 1)).map (fun (x : Nat) => Value.int .u8 (x : Int)) ++ [Value.int .i64 (n : Int)])))) = (A ++ ((rest.take u).map (fun (x : Nat) => Value.int .u8 (x : Int)) ++ [Value.int .u8 128])) ++ ((rest.drop (u + 1)).map (fun (x : Nat) => Value.int .u8 (x : Int)) ++ [Value.int .i64 (n : Int)]) := by simp
  rw [t1, List.take_left' (by simp [l1, hrs]; omega), ← List.append_assoc (A ++ _), List.drop_left' (by simp [l1, hrs]; omega)]
  simp [hs, hA]
end Go.Proofs.YteajpimonenopaaGreatDoor.Sha

namespace Go.Proofs.YteajpimonenopaaGreatDoor.Sha
open Go.RowKit
def padR (rest : List Nat) (u : Nat) : List Nat := rest.take u ++ 128 :: List.replicate (63 - u) 0
set_option maxRecDepth 100000 in
theorem padR_len (rest : List Nat) (u : Nat) (hrs : rest.length = 64) (hu : u < 64) : (padR rest u).length = 64 := by simp [padR, hrs]; omega
/-- The message's length, laid into the last eight bytes. -/
def lenk (r : List Nat) (n : Nat) : Nat → List Nat
  | 0 => r
  | k + 1 => (lenk r n k).set (56 + k) (8 * n / 2 ^ (56 - 8 * k) % 256)
set_option maxRecDepth 100000 in
theorem lenk_len (r : List Nat) (n : Nat) : ∀ k, (lenk r n k).length = r.length
  | 0 => rfl
  | k + 1 => by simp [lenk, lenk_len r n k]
set_option maxRecDepth 100000 in
theorem hs_set_rest (st rest : List Nat) (n i b : Nat) (hst : st.length = 8) (hrs : rest.length = 64) (hi : i < 64) : (hs st rest n).setIfInBounds (8 + i) (Value.int .u8 (b : Int)) = hs st (rest.set i b) n := by
  simp only [hs, List.setIfInBounds_toArray]
  rw [List.set_append_right _ _ (by simp [hst]), List.set_append_left _ _ (by simp [hst, hrs, hi])]
  simp [hst, List.map_set]
set_option maxRecDepth 100000 in
theorem padR_byt (rest : List Nat) (u : Nat) (hb : Byt rest) : Byt (padR rest u) := by
  intro x hx
  simp only [padR, List.mem_append, List.mem_cons] at hx
  rcases hx with h | h | h
  · exact hb x (List.mem_of_mem_take h)
  · omega
  · have : x = 0 := List.eq_of_mem_replicate h
    omega
set_option maxRecDepth 100000 in
theorem lenk_byt (r : List Nat) (n : Nat) (hb : Byt r) : ∀ k, Byt (lenk r n k)
  | 0 => hb
  | k + 1 => byt_set (lenk_byt r n hb k) _ _ (Nat.mod_lt _ (by decide))
set_option maxRecDepth 100000 in
theorem eight (l : List Nat) (h : l.length = 8) : ∃ a b c d e f g i, l = [a, b, c, d, e, f, g, i] := by
  match l, h with
  | [a, b, c, d, e, f, g, i], _ => exact ⟨a, b, c, d, e, f, g, i, rfl⟩
def MixOK (ks : List Nat) : Prop := ∀ (st blk : List Nat), st.length = 8 → Wrd st → Byt blk → ∀ (b off cap : Nat), 64 ≤ cap → cap ≤ maxLen → ∀ (w : World), b < w.heap.size → 5 < w.heap.size →
    Hid (∀ j, j < 64 → w.cell? ⟨b, off + j, none⟩ = some (.int .u8 ((blk.getD j 0 : Nat) : Int))) → Hid (∀ j, j < 64 → w.cell? ⟨5, j, none⟩ = some (.int .u32 ((ks.getD j 0 : Nat) : Int))) →
    Calls Tryz.prog 52 #[.agg (ws st), .slice (some ⟨b, off, none⟩) 64 cap] w fun e w' => e = .returned (.agg (ws (mixN ks st blk))) ∧ Below w.heap.size w w'
set_option maxRecDepth 100000 in
set_option maxHeartbeats 1000000 in
theorem pad_short (ks : List Nat) (hm : MixOK ks) (g : Nat) (st rest : List Nat) (n : Nat) (hst : st.length = 8) (hrs : rest.length = 64) (hn : n ≤ 1152921504606846976) (hsw : Wrd st) (hrb : Byt rest) (w : World) (hg : g ≠ 5) (hgl : g < w.heap.size) (hg1 : 5 < w.heap.size) (hK : Hid (∀ j, j < 64 → w.cell? ⟨5, j, none⟩ = some (.int .u32 ((ks.getD j 0 : Nat) : Int)))) (hh : Hid (w.heap[g]? = some (.cells (hs st rest n) 66 (0, 0)))) (hu : n % 64 < 56) :
    Calls Tryz.prog 53 #[.pointer (some ⟨g, 0, none⟩)] w fun e w' => e = .returned (.tuple #[]) ∧ Hid (w'.heap[g]? = some (.cells (hs (mixN ks st (lenk (padR rest (n % 64)) n 8)) (lenk (padR rest (n % 64)) n 8) n) 66 (0, 0))) ∧ Touch g w w' := by
  have cn : w.cell? ⟨g, 72, none⟩ = some (.int .i64 (n : Int)) := by rw [cell_of_row w _ _ _ _ _ hh.out, hs_len _ _ _ hst hrs]
  have cu : w.cell? ⟨g, 8 + n % 64, none⟩ = some (.int .u8 ((rest.getD (n % 64) 0 : Nat) : Int)) := by rw [cell_of_row w _ _ _ _ _ hh.out, hs_rest _ _ _ hst hrs _ (by omega)]
  have fz : ∀ i, w.frozen? ⟨g, i, none⟩ = false := fun i => frozen_of_row w _ i _ _ hh.out
  obtain ⟨W2, hcl, row2, tch2⟩ : ∃ W2, (∀ ty, (Builtin.clear_ #[22] ty #[.slice (some ⟨g, 8 + (n % 64 + 1), none⟩) (63 - n % 64) (63 - n % 64)]).run Tryz.prog (w.setCell ⟨g, 8 + n % 64, none⟩ (.int .u8 128)) = .ok (.tuple #[]) W2) ∧ Hid (W2.heap[g]? = some (.cells (hs st (padR rest (n % 64)) n) 66 (0, 0))) ∧ Touch g w W2 := by
    have hrow := heap_setCell_same w g (8 + n % 64) _ _ (.int .u8 128) hh.out
    refine ⟨_, fun ty => run_clear_row _ ty g (8 + (n % 64 + 1)) (63 - n % 64) _ 66 _ hrow (by rw [Array.size_setIfInBounds, hs_size _ _ _ hst hrs]; omega), ?_, ?_⟩
    · have := setRow_heap _ _ _ (((hs st rest n).setIfInBounds (8 + n % 64) (Value.int .u8 128)).toList.take (8 + (n % 64 + 1)) ++ List.replicate (63 - n % 64) (Value.int .u8 0) ++ ((hs st rest n).setIfInBounds (8 + n % 64) (Value.int .u8 128)).toList.drop (8 + (n % 64 + 1) + (63 - n % 64))).toArray _ _ hrow
      rw [hs_clear st rest n (n % 64) hst hrs (by omega)] at this
      rw [hs_clear st rest n (n % 64) hst hrs (by omega)]
      exact this
    · exact ((Touch.refl g w).setCell _).setRow _
  have cn2 : W2.cell? ⟨g, 72, none⟩ = some (.int .i64 (n : Int)) := by rw [cell_of_row W2 _ _ _ _ _ row2.out, hs_len _ _ _ hst (padR_len _ _ hrs (by omega))]
  have hn' : (n : Int) ≤ 1152921504606846976 := by omega
  have hn0 : (0 : Int) ≤ (n : Int) := by omega
  have hu' : (n : Int) % 64 < 56 := by omega
  have hal : Tryz.prog.arrayLen 64 = 64 := by kernel_rfl
  have hu0 : (0 : Int) ≤ (n : Int) % 64 + 1 := by omega
  have hu1 : (n : Int) % 64 + 1 ≤ 64 := by omega
  have hu2 : ((n : Int) % 64 + 1).toNat = n % 64 + 1 := by omega
  have hu3 : ((n : Int) % 64 + 1).toNat ≠ 64 := by omega
  go_enter Tryz.func53, Tryz.ntmps53
  go_wp2_with fail
  go_loopw [45] (fun i wr => ∃ (k : Nat) (r : List Nat), k ≤ 8 ∧ i = .int .i64 k ∧ Hid (r = lenk (padR rest (n % 64)) n k) ∧ Hid (wr.heap[g]? = some (.cells (hs st r n) 66 (0, 0))) ∧ Touch g w wr) (fun i _ => 8 - (intOf i).toNat)
  case atStart => exact ⟨0, _, by omega, rfl, rfl, row2, tch2⟩
  case round =>
    clear hcl cn cu cn2 fz row2 tch2
    obtain ⟨k, r, hk, rfl, Hr, HQ, tch⟩ := hrel
    have hrl : r.length = 64 := by rw [Hr.out, lenk_len, padR_len _ _ hrs (by omega)]
    have fz : ∀ i, wr.frozen? ⟨g, i, none⟩ = false := fun i => frozen_of_row wr _ i _ _ HQ.out
    by_cases hlt : k < 8
    · have ck : wr.cell? ⟨g, 8 + (56 + k), none⟩ = some (.int .u8 ((r.getD (56 + k) 0 : Nat) : Int)) := by rw [cell_of_row wr _ _ _ _ _ HQ.out, hs_rest _ _ _ hst hrl _ (by omega)]
      have hk1 : (k : Int) < 8 := by omega
      have hk0 : (0 : Int) ≤ (k : Int) := by omega
      have hk2 : (0 : Int) ≤ 56 - 8 * (k : Int) := by omega
      have hk3 : (56 : Int) + (k : Int) < 64 := by omega
      have hk4 : (0 : Int) ≤ 56 + (k : Int) := by omega
      go_wp2
      go_region
      go_wp2
      go_roundw
      case rel =>
        have ev : ((n : Int) * 8 / 2 ^ (56 - 8 * k) % 256) = ((8 * n / 2 ^ (56 - 8 * k) % 256 : Nat) : Int) := by
          rw [Nat.mul_comm 8 n]
          simp only [Int.natCast_emod, Int.natCast_ediv, Int.natCast_mul, Int.natCast_pow]
          rfl
        rw [ev]
        refine ⟨k + 1, _, by omega, by go_num, rfl, ?_, (tch.setCell _).drew⟩
        exact (heap_setCell_same _ _ _ _ _ _ HQ.out).trans (by rw [hs_set_rest _ _ _ _ _ hst hrl (by omega), lenk, Hr.out])
      case measure => simp [intOf]; omega
    · have hk8 : k = 8 := by omega
      have HE : Hid (r = lenk (padR rest (n % 64)) n 8) := by rw [hk8] at Hr; exact Hr
      have hrb2 : Byt r := by rw [HE.out]; exact lenk_byt _ _ (padR_byt _ _ hrb) 8
      clear hk8 Hr
      obtain ⟨s0, s1, s2, s3, s4, s5, s6, s7, rfl⟩ := eight st hst
      obtain ⟨m0, m1, m2, m3, m4, m5, m6, m7, hmx⟩ := eight (mixN ks [s0, s1, s2, s3, s4, s5, s6, s7] r) rfl
      have HM : Hid (mixN ks [s0, s1, s2, s3, s4, s5, s6, s7] r = [m0, m1, m2, m3, m4, m5, m6, m7]) := hmx
      clear hmx
      have c0 : wr.cell? ⟨g, 0, none⟩ = some (.int .u32 (s0 : Int)) := by rw [cell_of_row wr _ _ _ _ _ HQ.out, hs_state _ _ _ rfl 0 (by decide)]; rfl
      have c1 : wr.cell? ⟨g, 1, none⟩ = some (.int .u32 (s1 : Int)) := by rw [cell_of_row wr _ _ _ _ _ HQ.out, hs_state _ _ _ rfl 1 (by decide)]; rfl
      have c2 : wr.cell? ⟨g, 2, none⟩ = some (.int .u32 (s2 : Int)) := by rw [cell_of_row wr _ _ _ _ _ HQ.out, hs_state _ _ _ rfl 2 (by decide)]; rfl
      have c3 : wr.cell? ⟨g, 3, none⟩ = some (.int .u32 (s3 : Int)) := by rw [cell_of_row wr _ _ _ _ _ HQ.out, hs_state _ _ _ rfl 3 (by decide)]; rfl
      have c4 : wr.cell? ⟨g, 4, none⟩ = some (.int .u32 (s4 : Int)) := by rw [cell_of_row wr _ _ _ _ _ HQ.out, hs_state _ _ _ rfl 4 (by decide)]; rfl
      have c5 : wr.cell? ⟨g, 5, none⟩ = some (.int .u32 (s5 : Int)) := by rw [cell_of_row wr _ _ _ _ _ HQ.out, hs_state _ _ _ rfl 5 (by decide)]; rfl
      have c6 : wr.cell? ⟨g, 6, none⟩ = some (.int .u32 (s6 : Int)) := by rw [cell_of_row wr _ _ _ _ _ HQ.out, hs_state _ _ _ rfl 6 (by decide)]; rfl
      have c7 : wr.cell? ⟨g, 7, none⟩ = some (.int .u32 (s7 : Int)) := by rw [cell_of_row wr _ _ _ _ _ HQ.out, hs_state _ _ _ rfl 7 (by decide)]; rfl
      have hgr : g < wr.heap.size := Nat.lt_of_lt_of_le hgl tch.size
      have hmix := hm [s0, s1, s2, s3, s4, s5, s6, s7] r rfl hsw hrb2 g 8 64 (by decide) (by unfold maxLen; decide) wr.drew hgr (Nat.lt_of_lt_of_le hg1 tch.size)
        (fun j hj => by show wr.cell? _ = _; rw [cell_of_row wr _ _ _ _ _ HQ.out, hs_rest _ _ _ rfl hrl j hj])
        (fun j hj => (World.cell?_of_block (w := w) (tch.block 5 hg1 (Ne.symm hg))).trans (hK.out j hj))
      have HC : Hid (Calls Tryz.prog 52 #[.agg (ws [s0, s1, s2, s3, s4, s5, s6, s7]), .slice (some ⟨g, 8, none⟩) 64 64] wr.drew fun e w' => e = .returned (.agg #[Value.int IntKind.u32 (m0 : Int), Value.int IntKind.u32 (m1 : Int), Value.int IntKind.u32 (m2 : Int), Value.int IntKind.u32 (m3 : Int), Value.int IntKind.u32 (m4 : Int), Value.int IntKind.u32 (m5 : Int), Value.int IntKind.u32 (m6 : Int), Value.int IntKind.u32 (m7 : Int)]) ∧ Below wr.drew.heap.size wr.drew w') := by rw [HM.out] at hmix; exact hmix
      clear hmix
      go_wp2
      go_region_with ((go_at_call 52; refine HC.out.mono ?_; rintro e w' ⟨rfl, hb'⟩; have cc : ∀ j, w'.cell? ⟨g, j, none⟩ = wr.cell? ⟨g, j, none⟩ := (fun j => hb'.cell (p := ⟨g, j, none⟩) hgr); have ff : ∀ j, w'.frozen? ⟨g, j, none⟩ = wr.frozen? ⟨g, j, none⟩ := (fun j => hb'.frozen (p := ⟨g, j, none⟩) hgr)))
      all_goals go_wp2
      all_goals go_end0
      all_goals
        refine ⟨rfl, ?_, ?_⟩
        · rw [← HE.out, HM.out]
          exact hs_row8 w' g _ r n rfl m0 m1 m2 m3 m4 m5 m6 m7 ((hb'.block g hgr).trans HQ.out)
        · exact (tch.drew.trans (Touch.of_below hb')).trans (touch8 w' g _ _ _ _ _ _ _ _)
end Go.Proofs.YteajpimonenopaaGreatDoor.Sha
