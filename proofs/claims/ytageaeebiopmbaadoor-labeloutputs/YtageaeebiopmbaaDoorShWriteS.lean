import Derived.Test.YtageaeebiopmbaaDoorShWrite
namespace Go.Proofs.YtageaeebiopmbaaDoor.Sha
open Go.RowKit
set_option maxRecDepth 100000 in
theorem hs_copy_at (st rest e : List Nat) (n u : Nat) (hst : st.length = 8) (hrs : rest.length = 64) (he : u + e.length ≤ 64) :
    ((hs st rest n).toList.take (8 + u) ++ (e.map fun (x : Nat) => Value.int .u8 (x : Int)) ++ (hs st rest n).toList.drop (8 + u + e.length)).toArray = hs st (rest.take u ++ e ++ rest.drop (u + e.length)) n := by
  have l1 : (st.map (fun (x : Nat) => Value.int .u32 (x : Int))).length = 8 := by rw [List.length_map, hst]
  have e1 : (hs st rest n).toList = st.map (fun (x : Nat) => Value.int .u32 (x : Int)) ++ (rest.map (fun (x : Nat) => Value.int .u8 (x : Int)) ++ [Value.int .i64 (n : Int)]) := by simp [hs]
  have e2 : ((st.map (fun (x : Nat) => Value.int .u32 (x : Int)) ++ (rest.map (fun (x : Nat) => Value.int .u8 (x : Int)) ++ [Value.int .i64 (n : Int)])).drop (8 + u + e.length)) = (rest.drop (u + e.length)).map (fun (x : Nat) => Value.int .u8 (x : Int)) ++ [Value.int .i64 (n : Int)] := by
    rw [Nat.add_assoc, ← List.drop_drop, List.drop_left' l1, List.drop_append_of_le_length (by rw [List.length_map, hrs]; exact he), List.map_drop]
  have e3 : ((st.map (fun (x : Nat) => Value.int .u32 (x : Int)) ++ (rest.map (fun (x : Nat) => Value.int .u8 (x : Int)) ++ [Value.int .i64 (n : Int)])).take (8 + u)) = st.map (fun (x : Nat) => Value.int .u32 (x : Int)) ++ (rest.take u).map (fun (x : Nat) => Value.int .u8 (x : Int)) := by
    rw [List.take_append, l1, Nat.add_sub_cancel_left, List.take_of_length_le (by rw [l1]; omega), List.take_append_of_le_length (by rw [List.length_map, hrs]; omega), List.map_take]
  rw [e1, e2, e3]
  simp [hs]
set_option maxRecDepth 100000 in
/-- The copy of e into the rest from u on. -/
theorem run_copy_rest (wr : World) (ty g b o L C u : Nat) (st rest e : List Nat) (n : Nat) (hst : st.length = 8) (hrs : rest.length = 64) (hL : e.length = Nat.min L (64 - u)) (hu : u < 64)
    (hrow : wr.heap[g]? = some (.cells (hs st rest n) 78 (0, 0))) (hsrc : ∀ j, j < e.length → wr.cell? ⟨b, o + j, none⟩ = some (.int .u8 ((e.getD j 0 : Nat) : Int))) :
    ∃ W9, (Builtin.copy_ #[48, 48] ty #[.slice (some ⟨g, 8 + u, none⟩) (64 - u) (64 - u), .slice (some ⟨b, o, none⟩) L C]).run Tryd.prog wr = .ok (goInt e.length) W9 ∧ W9.heap[g]? = some (.cells (hs st (rest.take u ++ e ++ rest.drop (u + e.length)) n) 78 (0, 0)) ∧ Touch g wr W9 := by
  have hlen : (e.map fun (x : Nat) => Value.int .u8 (x : Int)).length = e.length := by rw [List.length_map]
  have h1 := Nat.min_le_right L (64 - u)
  have h2 : e.length ≤ 64 - u := by rw [hL]; exact h1
  have hle : u + e.length ≤ 64 := by omega
  have hc := run_copy_row (P := Tryd.prog) wr 48 48 ty 5 g (8 + u) (64 - u) (64 - u) ⟨b, o, none⟩ L C _ 78 (e.map fun (x : Nat) => Value.int .u8 (x : Int)) Tryd.underlying48 size5 hrow (by rw [hlen, hL]) (fun j v hj => ?_) (by rw [hlen, hs_size _ _ _ hst hrs]; omega) (fun v hv => by obtain ⟨x, _, rfl⟩ := List.mem_map.1 hv; rfl)
  · rw [hlen] at hc
    refine ⟨_, hc, ?_, (Touch.refl _ _).setRow _⟩
    have := setRow_heap wr g _ ((hs st rest n).toList.take (8 + u) ++ (e.map fun (x : Nat) => Value.int .u8 (x : Int)) ++ (hs st rest n).toList.drop (8 + u + e.length)).toArray _ _ hrow
    rw [hs_copy_at st rest e n u hst hrs hle] at this
    rw [hs_copy_at st rest e n u hst hrs hle]
    exact this
  · have hj2 : j < e.length := by rw [← hlen]; exact (List.getElem?_eq_some_iff.1 hj).1
    have ev : v = Value.int .u8 ((e.getD j 0 : Nat) : Int) := by
      simp only [List.getElem?_map] at hj
      rw [List.getElem?_eq_getElem hj2] at hj
      simp only [Option.map_some, Option.some.injEq] at hj
      rw [← hj]
      simp [List.getD, hj2]
    rw [ev, Addr.add_mid]
    exact hsrc j hj2
set_option maxRecDepth 100000 in
set_option maxHeartbeats 1000000 in
/-- A Write that does not fill the block. -/
theorem write_short (sn : List Nat) (hsn : sn.length = 8) (g : Nat) (st rest : List Nat) (n : Nat) (hst : st.length = 8) (hrs : rest.length = 64) (d : List Nat) (hn : n + d.length ≤ 1152921504606846976) (hu : 0 < n % 64) (hul : n % 64 + d.length < 64)
    (b off cap : Nat) (w : World) (hbg : b ≠ g) (hbl : b < w.heap.size)
    (hS : Hid (∀ j, j < 8 → w.cell? ⟨3, j, none⟩ = some (.int .u32 ((sn.getD j 0 : Nat) : Int))))
    (hd : Hid (∀ j, j < d.length → w.cell? ⟨b, off + j, none⟩ = some (.int .u8 ((d.getD j 0 : Nat) : Int)))) (hh : Hid (w.heap[g]? = some (.cells (hs st rest n) 78 (0, 0)))) :
    Calls Tryd.prog 29 #[.pointer (some ⟨g, 0, none⟩), .slice (some ⟨b, off, none⟩) d.length cap] w fun e w' => e = .returned (.int .i64 0) ∧
      Hid (w'.heap[g]? = some (.cells (hs st (rest.take (n % 64) ++ d ++ rest.drop (n % 64 + d.length)) (n + d.length)) 78 (0, 0))) ∧ Touch g w w' := by
  have cn : w.cell? ⟨g, 72, none⟩ = some (.int .i64 (n : Int)) := by rw [cell_of_row w _ _ _ _ _ hh.out, hs_len _ _ _ hst hrs]
  have hn1 : (n : Int) + (d.length : Int) ≤ 1152921504606846976 := by omega
  have hn2 : ¬ (1152921504606846976 - (n : Int) < (d.length : Int)) := by omega
  have hbeg : begS sn st n = st := by unfold begS; rw [if_neg (by intro h; rw [h] at hu; exact absurd hu (by decide))]
  go_enter Tryd.func29, Tryd.ntmps29
  go_wp2_with fail
  refine (begin_any g sn st rest n hsn hst hrs w hS hh).mono ?_
  rintro e W1 ⟨rfl, row1, tch1⟩
  rw [hbeg] at row1
  clear hbeg
  have cn1 : W1.cell? ⟨g, 72, none⟩ = some (.int .i64 (n : Int)) := by rw [cell_of_row W1 _ _ _ _ _ row1.out, hs_len _ _ _ hst hrs]
  have fz1 : ∀ i, W1.frozen? ⟨g, i, none⟩ = false := fun i => frozen_of_row W1 _ i _ _ row1.out
  obtain ⟨W2, hW2⟩ : ∃ W2, W2 = W1.setCell ⟨g, 72, none⟩ (Value.int IntKind.i64 ((n : Int) + (d.length : Int))) := ⟨_, rfl⟩
  have row2 : Hid (W2.heap[g]? = some (.cells (hs st rest (n + d.length)) 78 (0, 0))) := by rw [hW2]; exact (heap_setCell_same _ _ _ _ _ _ row1.out).trans (by rw [show ((n : Int) + (d.length : Int)) = ((n + d.length : Nat) : Int) by omega, hs_set_len _ _ _ _ hst hrs])
  have tch2 : Touch g w W2 := by rw [hW2]; exact tch1.setCell _
  obtain ⟨W3, hcp, row3, tch3⟩ := run_copy_rest W2 3 g b off d.length cap (n % 64) st rest d (n + d.length) hst hrs (Nat.min_eq_left (by omega)).symm (by omega) row2.out (fun j hj => (World.cell?_of_block (w := w) (tch2.block b hbl hbg)).trans (hd.out _ hj))
  rw [hW2] at hcp
  have ROW3 : Hid (W3.heap[g]? = some (.cells (hs st (rest.take (n % 64) ++ d ++ rest.drop (n % 64 + d.length)) (n + d.length)) 78 (0, 0))) := row3
  have TCH : Touch g w W3 := tch2.trans tch3
  clear row3 tch3 row2 tch2 hW2 W2
  have hal : Tryd.prog.arrayLen 76 = 64 := by kernel_rfl
  have hu0 : (0 : Int) < (n : Int) % 64 := by omega
  have hu00 : (0 : Int) ≤ (n : Int) % 64 := by omega
  have hu1 : (n : Int) % 64 ≤ 64 := by omega
  have hu2 : ((n : Int) % 64).toNat = n % 64 := by omega
  have hu3 : ¬ (64 = n % 64) := by omega
  have hu4 : (n : Int) % 64 + (d.length : Int) < 64 := by omega
  go_wp2
  go_ret
  exact ⟨rfl, ROW3, TCH⟩
end Go.Proofs.YtageaeebiopmbaaDoor.Sha
