import Derived.Test.YtageaeebiopmbaaDoorShSum
import Derived.Laws.CopyRow
namespace Go.Proofs.YtageaeebiopmbaaDoor.Sha
open Go.RowKit
/-- The state behind k whole blocks of d. -/
def absN (ks st d : List Nat) : Nat → List Nat
  | 0 => st
  | k + 1 => mixN ks (absN ks st d k) ((d.drop (64 * k)).take 64)
set_option maxRecDepth 100000 in
theorem absN_len (ks st d : List Nat) (h : st.length = 8) : ∀ k, (absN ks st d k).length = 8
  | 0 => h
  | _ + 1 => rfl
set_option maxRecDepth 100000 in
theorem absN_wrd (ks st d : List Nat) (h : Wrd st) : ∀ k, Wrd (absN ks st d k)
  | 0 => h
  | _ + 1 => mixN_wrd _ _ _
def slLen : Value → Nat
  | .slice _ n _ => n
  | _ => 0
/-- What holds at the head of each round of Write. -/
def WI (ks sn st rest d : List Nat) (n g b off cap : Nat) (w : World) (v : Value) (wr : World) : Prop :=
  ∃ (k o : Nat) (s : List Nat), 64 * k ≤ d.length ∧ v = .slice (some ⟨b, o, none⟩) (d.length - 64 * k) (cap - 64 * k) ∧ Hid (0 < d.length - 64 * k → o = off + 64 * k) ∧ Hid (s = absN ks (begS sn st n) d k) ∧ Hid (wr.heap[g]? = some (.cells (hs s rest (n + d.length)) 78 (0, 0))) ∧ Touch g w wr
set_option maxRecDepth 100000 in
theorem hs_set_len (st rest : List Nat) (n m : Nat) (hst : st.length = 8) (hrs : rest.length = 64) : (hs st rest n).setIfInBounds 72 (Value.int .i64 (m : Int)) = hs st rest m := by
  simp only [hs, List.setIfInBounds_toArray]
  rw [List.set_append_right _ _ (by simp [hst]), List.set_append_right _ _ (by simp [hst, hrs])]
  simp [hst, hrs]
set_option maxRecDepth 100000 in
theorem hs_copy (st rest e : List Nat) (n : Nat) (hst : st.length = 8) (hrs : rest.length = 64) (he : e.length ≤ 64) :
    ((hs st rest n).toList.take 8 ++ (e.map fun (x : Nat) => Value.int .u8 (x : Int)) ++ (hs st rest n).toList.drop (8 + e.length)).toArray = hs st (e ++ rest.drop e.length) n := by
  have l1 : (st.map (fun (x : Nat) => Value.int .u32 (x : Int))).length = 8 := by rw [List.length_map, hst]
  have e1 : (hs st rest n).toList = st.map (fun (x : Nat) => Value.int .u32 (x : Int)) ++ (rest.map (fun (x : Nat) => Value.int .u8 (x : Int)) ++ [Value.int .i64 (n : Int)]) := by simp [hs]
  have e2 : ((st.map (fun (x : Nat) => Value.int .u32 (x : Int)) ++ (rest.map (fun (x : Nat) => Value.int .u8 (x : Int)) ++ [Value.int .i64 (n : Int)])).drop (8 + e.length)) = (rest.drop e.length).map (fun (x : Nat) => Value.int .u8 (x : Int)) ++ [Value.int .i64 (n : Int)] := by
    rw [← List.drop_drop, List.drop_left' l1, List.drop_append_of_le_length (by rw [List.length_map, hrs]; exact he), List.map_drop]
  rw [e1, e2, List.take_left' l1]
  simp [hs]
set_option maxRecDepth 100000 in
set_option maxHeartbeats 1000000 in
/-- A Write at a block's edge. -/
theorem write_edge (ks sn : List Nat) (hm : MixOK ks) (hsn : sn.length = 8) (hsnw : Wrd sn) (g : Nat) (st rest : List Nat) (n : Nat) (hst : st.length = 8) (hrs : rest.length = 64) (hsw : Wrd st) (d : List Nat) (hdb : Byt d) (hn : n + d.length ≤ 1152921504606846976) (hu : n % 64 = 0)
    (b off cap : Nat) (hcap : d.length ≤ cap) (hmax : cap ≤ maxLen) (w : World) (hbg : b ≠ g) (hbl : b < w.heap.size) (hg : g ≠ 4) (hg1 : 4 < w.heap.size)
    (hS : Hid (∀ j, j < 8 → w.cell? ⟨3, j, none⟩ = some (.int .u32 ((sn.getD j 0 : Nat) : Int)))) (hK : Hid (∀ j, j < 64 → w.cell? ⟨4, j, none⟩ = some (.int .u32 ((ks.getD j 0 : Nat) : Int))))
    (hd : Hid (∀ j, j < d.length → w.cell? ⟨b, off + j, none⟩ = some (.int .u8 ((d.getD j 0 : Nat) : Int)))) (hh : Hid (w.heap[g]? = some (.cells (hs st rest n) 78 (0, 0)))) :
    Calls Tryd.prog 29 #[.pointer (some ⟨g, 0, none⟩), .slice (some ⟨b, off, none⟩) d.length cap] w fun e w' => e = .returned (.int .i64 0) ∧
      Hid (w'.heap[g]? = some (.cells (hs (absN ks (begS sn st n) d (d.length / 64)) (d.drop (64 * (d.length / 64)) ++ rest.drop (d.length % 64)) (n + d.length)) 78 (0, 0))) ∧ Touch g w w' := by
  have cn : w.cell? ⟨g, 72, none⟩ = some (.int .i64 (n : Int)) := by rw [cell_of_row w _ _ _ _ _ hh.out, hs_len _ _ _ hst hrs]
  have hn1 : (n : Int) + (d.length : Int) ≤ 1152921504606846976 := by omega
  have hn2 : ¬ (1152921504606846976 - (n : Int) < (d.length : Int)) := by omega
  unfold maxLen at hmax
  go_enter Tryd.func29, Tryd.ntmps29
  go_wp2_with fail
  refine (begin_any g sn st rest n hsn hst hrs w hS hh).mono ?_
  rintro e W1 ⟨rfl, row1, tch1⟩
  have bl : (begS sn st n).length = 8 := by unfold begS; split <;> assumption
  have bw : Wrd (begS sn st n) := by unfold begS; split <;> assumption
  have cn1 : W1.cell? ⟨g, 72, none⟩ = some (.int .i64 (n : Int)) := by rw [cell_of_row W1 _ _ _ _ _ row1.out, hs_len _ _ _ bl hrs]
  have fz1 : ∀ i, W1.frozen? ⟨g, i, none⟩ = false := fun i => frozen_of_row W1 _ i _ _ row1.out
  have hu1 : (n : Int) % 64 = 0 := by omega
  go_wp2_with fail
  have row2 : Hid ((W1.setCell ⟨g, 72, none⟩ (Value.int IntKind.i64 ((n : Int) + (d.length : Int)))).heap[g]? = some (.cells (hs (begS sn st n) rest (n + d.length)) 78 (0, 0))) := (heap_setCell_same _ _ _ _ _ _ row1.out).trans (by rw [show ((n : Int) + (d.length : Int)) = ((n + d.length : Nat) : Int) by omega, hs_set_len _ _ _ _ bl hrs])
  have tch2 : Touch g w (W1.setCell ⟨g, 72, none⟩ (Value.int IntKind.i64 ((n : Int) + (d.length : Int)))) := tch1.setCell _
  revert row2 tch2
  generalize W1.setCell ⟨g, 72, none⟩ (Value.int IntKind.i64 ((n : Int) + (d.length : Int))) = W2
  intro row2 tch2
  clear cn1 fz1 row1 tch1 cn
  go_loopw [1] (fun v wr => WI ks sn st rest d n g b off cap w v wr) (fun v _ => slLen v)
  case atStart => exact ⟨0, off, _, by omega, rfl, fun _ => rfl, rfl, row2, tch2⟩
  case round =>
    clear row2 tch2
    obtain ⟨k, o, s, hk, rfl, ho, Hs, HQ, tch⟩ := hrel
    obtain ⟨L, hL⟩ : ∃ L, L = d.length - 64 * k := ⟨_, rfl⟩
    obtain ⟨C, hC⟩ : ∃ C, C = cap - 64 * k := ⟨_, rfl⟩
    rw [← hL, ← hC]
    have HL : Hid (L = d.length - 64 * k) := hL
    have HCC : Hid (C = cap - 64 * k) := hC
    have hLC : L ≤ C := by omega
    have hLC' : (L : Int) ≤ (C : Int) := by omega
    have hCm : C ≤ 2 ^ 63 - 1 := by omega
    clear hL hC
    have hsl : s.length = 8 := by rw [Hs.out]; exact absN_len _ _ _ bl k
    have hsw2 : Wrd s := by rw [Hs.out]; exact absN_wrd _ _ _ bw k
    have fz : ∀ i, wr.frozen? ⟨g, i, none⟩ = false := fun i => frozen_of_row wr _ i _ _ HQ.out
    by_cases hge : 64 ≤ L
    · have hge' : (64 : Int) ≤ (L : Int) := by omega
      have hgeC : (64 : Int) ≤ (C : Int) := by omega
      have hoo : o = off + 64 * k := ho.out (by have := HL.out; omega)
      obtain ⟨blk, hblk⟩ : ∃ x, x = (d.drop (64 * k)).take 64 := ⟨_, rfl⟩
      have hbb : Byt blk := by rw [hblk]; exact fun x hx => hdb x (List.mem_of_mem_drop (List.mem_of_mem_take hx))
      have hbc : Hid (∀ j, j < 64 → wr.drew.cell? ⟨b, o + j, none⟩ = some (.int .u8 ((blk.getD j 0 : Nat) : Int))) := by
        intro j hj
        have e : blk.getD j 0 = d.getD (64 * k + j) 0 := by
          rw [hblk]
          simp only [List.getD_eq_getElem?_getD, List.getElem?_take, List.getElem?_drop]
          rw [if_pos hj]
        rw [e, hoo, Nat.add_assoc]
        exact (World.cell?_of_block (w := w) (tch.block b hbl hbg)).trans (hd.out _ (by have := HL.out; omega))
      have HB : Hid (blk = (d.drop (64 * k)).take 64) := hblk
      clear hblk hoo
      obtain ⟨s0, s1, s2, s3, s4, s5, s6, s7, rfl⟩ := eight s hsl
      obtain ⟨m0, m1, m2, m3, m4, m5, m6, m7, hmx⟩ := eight (mixN ks [s0, s1, s2, s3, s4, s5, s6, s7] blk) rfl
      have HM : Hid (mixN ks [s0, s1, s2, s3, s4, s5, s6, s7] blk = [m0, m1, m2, m3, m4, m5, m6, m7]) := hmx
      clear hmx
      have c0 : wr.cell? ⟨g, 0, none⟩ = some (.int .u32 (s0 : Int)) := by rw [cell_of_row wr _ _ _ _ _ HQ.out, hs_state _ _ _ rfl 0 (by decide)]; rfl
      have c1 : wr.cell? ⟨g, 1, none⟩ = some (.int .u32 (s1 : Int)) := by rw [cell_of_row wr _ _ _ _ _ HQ.out, hs_state _ _ _ rfl 1 (by decide)]; rfl
      have c2 : wr.cell? ⟨g, 2, none⟩ = some (.int .u32 (s2 : Int)) := by rw [cell_of_row wr _ _ _ _ _ HQ.out, hs_state _ _ _ rfl 2 (by decide)]; rfl
      have c3 : wr.cell? ⟨g, 3, none⟩ = some (.int .u32 (s3 : Int)) := by rw [cell_of_row wr _ _ _ _ _ HQ.out, hs_state _ _ _ rfl 3 (by decide)]; rfl
      have c4 : wr.cell? ⟨g, 4, none⟩ = some (.int .u32 (s4 : Int)) := by rw [cell_of_row wr _ _ _ _ _ HQ.out, hs_state _ _ _ rfl 4 (by decide)]; rfl
      have c5 : wr.cell? ⟨g, 5, none⟩ = some (.int .u32 (s5 : Int)) := by rw [cell_of_row wr _ _ _ _ _ HQ.out, hs_state _ _ _ rfl 5 (by decide)]; rfl
      have c6 : wr.cell? ⟨g, 6, none⟩ = some (.int .u32 (s6 : Int)) := by rw [cell_of_row wr _ _ _ _ _ HQ.out, hs_state _ _ _ rfl 6 (by decide)]; rfl
      have c7 : wr.cell? ⟨g, 7, none⟩ = some (.int .u32 (s7 : Int)) := by rw [cell_of_row wr _ _ _ _ _ HQ.out, hs_state _ _ _ rfl 7 (by decide)]; rfl
      have hgr : g < wr.heap.size := (Array.getElem?_eq_some_iff.1 HQ.out).1
      have hmix := hm [s0, s1, s2, s3, s4, s5, s6, s7] blk rfl hsw2 hbb b o C (by omega) (by unfold maxLen; omega) wr.drew (Nat.lt_of_lt_of_le hbl tch.size) (Nat.lt_of_lt_of_le hg1 tch.size) hbc
        (fun j hj => (World.cell?_of_block (w := w) (tch.block 4 hg1 (Ne.symm hg))).trans (hK.out j hj))
      have HC : Hid (Calls Tryd.prog 40 #[.agg (ws [s0, s1, s2, s3, s4, s5, s6, s7]), .slice (some ⟨b, o, none⟩) 64 C] wr.drew fun e w' => e = .returned (.agg #[Value.int IntKind.u32 (m0 : Int), Value.int IntKind.u32 (m1 : Int), Value.int IntKind.u32 (m2 : Int), Value.int IntKind.u32 (m3 : Int), Value.int IntKind.u32 (m4 : Int), Value.int IntKind.u32 (m5 : Int), Value.int IntKind.u32 (m6 : Int), Value.int IntKind.u32 (m7 : Int)]) ∧ Below wr.drew.heap.size wr.drew w') := by rw [HM.out] at hmix; exact hmix
      clear hmix
      go_wp2
      go_region_with ((go_at_call 40; refine HC.out.mono ?_; rintro e w' ⟨rfl, hb'⟩; have cc : ∀ j, w'.cell? ⟨g, j, none⟩ = wr.cell? ⟨g, j, none⟩ := (fun j => hb'.cell (p := ⟨g, j, none⟩) hgr); have ff : ∀ j, w'.frozen? ⟨g, j, none⟩ = wr.frozen? ⟨g, j, none⟩ := (fun j => hb'.frozen (p := ⟨g, j, none⟩) hgr)))
      all_goals go_wp2
      all_goals go_roundw
      all_goals first
        | (simp [slLen]; omega)
        | skip
      all_goals
        have row9 := hs_row8 w' g _ rest (n + d.length) rfl m0 m1 m2 m3 m4 m5 m6 m7 ((hb'.block g hgr).trans HQ.out)
        have tch9 := (tch.drew.trans (Touch.of_below hb')).trans (touch8 w' g (.int .u32 (m0 : Int)) (.int .u32 (m1 : Int)) (.int .u32 (m2 : Int)) (.int .u32 (m3 : Int)) (.int .u32 (m4 : Int)) (.int .u32 (m5 : Int)) (.int .u32 (m6 : Int)) (.int .u32 (m7 : Int)))
        have hL := HL.out
        have hC := HCC.out
        have ha : [m0, m1, m2, m3, m4, m5, m6, m7] = absN ks (begS sn st n) d (k + 1) := by rw [absN, ← Hs.out, ← HB.out, HM.out]
        have e1 : L - 64 = d.length - 64 * (k + 1) := by omega
        have e2 : C - 64 = cap - 64 * (k + 1) := by omega
        have ho' := ho.out (by omega)
        first
          | exact ⟨k + 1, o + 64, _, by omega, by rw [e1, e2], fun _ => by omega, ha, row9, tch9⟩
          | exact ⟨k + 1, o, _, by omega, by rw [← e1, ← e2, show C - 64 = 0 by omega], fun h => by omega, ha, row9, tch9⟩
    · have hL := HL.out
      have hkd : k = d.length / 64 := by omega
      have hLm : L = d.length % 64 := by omega
      obtain ⟨W9, hcp, row9, tch9⟩ : ∃ W9, (∀ ty, (Builtin.copy_ #[48, 48] ty #[.slice (some ⟨g, 8, none⟩) 64 64, .slice (some ⟨b, o, none⟩) L C]).run Tryd.prog wr = .ok (goInt L) W9) ∧ Hid (W9.heap[g]? = some (.cells (hs s (d.drop (64 * (d.length / 64)) ++ rest.drop (d.length % 64)) (n + d.length)) 78 (0, 0))) ∧ Touch g w W9 := by
        have hlen : ((d.drop (64 * k)).map fun (x : Nat) => Value.int .u8 (x : Int)).length = L := by rw [List.length_map, List.length_drop, hL]
        have hc := run_copy_row (P := Tryd.prog) wr 48 48 3 5 g 8 64 64 ⟨b, o, none⟩ L C _ 78 ((d.drop (64 * k)).map fun (x : Nat) => Value.int .u8 (x : Int)) Tryd.underlying48 size5 HQ.out (by rw [hlen]; exact (Nat.min_eq_left (by omega)).symm) (fun j v hj => ?_) (by rw [hlen, hs_size _ _ _ hsl hrs]; omega) (fun v hv => by obtain ⟨x, _, rfl⟩ := List.mem_map.1 hv; rfl)
        · rw [hlen] at hc
          refine ⟨_, fun ty => hc, ?_, tch.setRow _⟩
          have e := hs_copy s rest (d.drop (64 * k)) (n + d.length) hsl hrs (by rw [List.length_drop]; omega)
          rw [show (d.drop (64 * k)).length = L by rw [List.length_drop, hL]] at e
          have := setRow_heap wr g _ ((hs s rest (n + d.length)).toList.take 8 ++ ((d.drop (64 * k)).map fun (x : Nat) => Value.int .u8 (x : Int)) ++ (hs s rest (n + d.length)).toList.drop (8 + L)).toArray _ _ HQ.out
          rw [e] at this
          rw [e, ← hkd, ← hLm]
          exact this
        · have hj2 : j < L := by rw [← hlen]; exact (List.getElem?_eq_some_iff.1 hj).1
          have ho' := ho.out (by omega)
          have ev : v = Value.int .u8 ((d.getD (64 * k + j) 0 : Nat) : Int) := by
            simp only [List.getElem?_map, List.getElem?_drop] at hj
            have hlt : 64 * k + j < d.length := by omega
            rw [List.getElem?_eq_getElem hlt] at hj
            simp only [Option.map_some, Option.some.injEq] at hj
            rw [← hj]
            simp [List.getD, hlt]
          rw [ev, Addr.add_mid, ho', Nat.add_assoc]
          exact (World.cell?_of_block (w := w) (tch.block b hbl hbg)).trans (hd.out _ (by omega))
      have HKD : Hid (k = d.length / 64) := hkd
      clear ho hL hkd hLm
      go_wp2
      go_ret
      refine ⟨rfl, ?_, tch9⟩
      rw [HKD.out] at Hs
      rw [← Hs.out]
      exact row9
end Go.Proofs.YtageaeebiopmbaaDoor.Sha
