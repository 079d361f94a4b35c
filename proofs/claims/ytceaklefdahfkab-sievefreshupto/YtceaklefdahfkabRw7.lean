/- The sieve's rewriter: none, At, Held, Feed, Close. -/
import Derived.Test.YtceaklefdahfkabRwJ
namespace Go.Proofs.Ytceaklefdahfkab
open Go.RowKit
theorem sg69 (a b c d tv : Value) (f : Int) (K : List Nat) (dn : Bool) (h : K.length = 63) : (a :: b :: c :: d :: rX tv f K dn).toArray[69]? = some (.bool dn) := by
  simp [rX, h]
theorem noneW_any (gr gt s n h : Nat) (tv : Value) (f : Int) (K : List Nat) (w : World) (hw : Rwt gr gt s n h tv f K w) : Calls Try.prog 57 #[.pointer (some ⟨gr, 0, none⟩)] w fun e w' => e = .returned (.bool false) ∧ w' = w := by
  have c0 : w.cell? ⟨gr, 0, none⟩ = some (.pointer (some ⟨gt, 0, none⟩)) := (cell_of_row w gr 0 _ _ _ hw).trans (sg0 _ _ _ _ _)
  clear hw
  go_enter Try.func57, Try.ntmps57
  go_wp2
  go_ret
  exact ⟨rfl, rfl⟩
theorem noneW_done (gr n h : Nat) (w : World) (hw : Rwd gr n h w) : Calls Try.prog 57 #[.pointer (some ⟨gr, 0, none⟩)] w fun e w' => e = .returned (.bool false) ∧ w' = w := by
  have c0 : w.cell? ⟨gr, 0, none⟩ = some (.pointer none) := (cell_of_row w gr 0 _ _ _ hw).trans (sg0 _ _ _ _ _)
  have c9 : w.cell? ⟨gr, 69, none⟩ = some (.bool true) := (cell_of_row w gr 69 _ _ _ hw).trans (sg69 _ _ _ _ _ _ _ _ (by simp))
  clear hw
  go_enter Try.func57, Try.ntmps57
  go_wp2
  go_ret
  exact ⟨rfl, rfl⟩
theorem scAt_any (gr n : Nat) (w : World) (c : w.cell? ⟨gr, 2, none⟩ = some (.int .i64 (n : Int))) : Calls Try.prog 31 #[.pointer (some ⟨gr, 0, none⟩)] w fun e w' => e = .returned (.int .i64 (n : Int)) ∧ w' = w := by
  go_enter Try.func31, Try.ntmps31
  go_wp2
  go_ret
  exact ⟨rfl, rfl⟩
theorem scHeld_any (gr h : Nat) (w : World) (c : w.cell? ⟨gr, 3, none⟩ = some (.int .i64 (h : Int))) : Calls Try.prog 33 #[.pointer (some ⟨gr, 0, none⟩)] w fun e w' => e = .returned (.int .i64 (h : Int)) ∧ w' = w := by
  go_enter Try.func33, Try.ntmps33
  go_wp2
  go_ret
  exact ⟨rfl, rfl⟩
theorem rwAt_any (gr n : Nat) (w : World) (c : w.cell? ⟨gr, 2, none⟩ = some (.int .i64 (n : Int))) : Calls Try.prog 60 #[.pointer (some ⟨gr, 0, none⟩)] w fun e w' => e = .returned (.int .i64 (n : Int)) ∧ w' = w := by
  have C : Hid _ := scAt_any gr n w c
  go_enter Try.func60, Try.ntmps60
  go_wp2_with fail
  refine Calls.mono C.out ?_
  rintro e W ⟨rfl, rfl⟩
  go_wp2
  go_ret
  exact ⟨rfl, rfl⟩
theorem rwHeld_any (gr h : Nat) (w : World) (c : w.cell? ⟨gr, 3, none⟩ = some (.int .i64 (h : Int))) : Calls Try.prog 58 #[.pointer (some ⟨gr, 0, none⟩)] w fun e w' => e = .returned (.int .i64 (h : Int)) ∧ w' = w := by
  have C : Hid _ := scHeld_any gr h w c
  go_enter Try.func58, Try.ntmps58
  go_wp2_with fail
  refine Calls.mono C.out ?_
  rintro e W ⟨rfl, rfl⟩
  go_wp2
  go_ret
  exact ⟨rfl, rfl⟩
/-- The kept bytes, as they lie. -/
theorem kept_cell {gr gt s n h : Nat} {tv : Value} {f : Int} {K : List Nat} {w : World} (hw : Rwt gr gt s n h tv f K w) (j : Nat) (hj : j < K.length) : w.cell? ⟨gr, 6 + j, none⟩ = some (.int .u8 ((K.getD j 0 : Nat) : Int)) := by
  rw [cell_of_row w _ _ _ _ _ hw, sgk _ _ _ _ _ _ _ _ _ hj]
theorem cp_kept (W : World) (g gr gt s n h : Nat) (tv : Value) (f : Int) (K : List Nat) (hK : K.length = 63) (hh : h ≤ 63) (hw : Rwt gr gt s n h tv f K W) (hr : W.heap[g]? = some (.cells (ik .u8 (List.replicate h 0)) 5 (0, 0))) :
    (cpB 3 #[.slice (some ⟨g, 0, none⟩) h h, .slice (some ⟨gr, 6, none⟩) 63 63]).run Try.prog W = .ok (goInt h) (W.setRow g (ik .u8 (K.take h))) := by
  have hkl : (K.take h).length = h := by rw [List.length_take]; omega
  have hlen : ((K.take h).map fun (x : Nat) => Value.int .u8 (x : Int)).length = h := by rw [List.length_map, hkl]
  have hc := run_copy_row (P := Try.prog) W 23 23 3 5 g 0 h h ⟨gr, 6, none⟩ 63 63 _ 5 ((K.take h).map fun (x : Nat) => Value.int .u8 (x : Int)) Try.underlying23 size5 hr (by rw [hlen]; show h = Nat.min 63 h; have : Nat.min 63 h = min 63 h := rfl; omega) (fun j v hj => by
    have hj2 : j < h := by have := (List.getElem?_eq_some_iff.1 hj).1; rwa [hlen] at this
    rw [Go.WideShapes.add_plain, kept_cell hw j (by omega)]
    simp only [List.getElem?_map] at hj
    rw [List.getElem?_eq_getElem (by omega)] at hj
    simp only [Option.map_some, Option.some.injEq] at hj
    rw [← hj]
    simp [List.getD, show j < K.length by omega]) (by rw [hlen, ik_size]; simp) (fun v hv => by obtain ⟨x, _, rfl⟩ := List.mem_map.1 hv; rfl)
  rw [hlen] at hc
  have h2 := ik_ovr (List.replicate h 0) (K.take h) 0
  rw [hkl] at h2
  rw [h2] at hc
  have h3 : ovr (List.replicate h 0) (K.take h) 0 = K.take h := by simp [ovr, hkl]
  rw [h3] at hc
  exact hc
attribute [local go_sem ↓] toMkB toCpB
set_option maxRecDepth 100000 in
set_option maxHeartbeats 1600000 in
theorem rclose_any (gr gt s n h : Nat) (tv : Value) (f : Int) (K : List Nat) (hK : K.length = 63) (hh : h ≤ 63) (w : World) (hw : Rwt gr gt s n h tv f K w) :
    Calls Try.prog 23 #[.pointer (some ⟨gr, 0, none⟩)] w fun e w' => e = .returned (.tuple #[.slice (some ⟨w.heap.size, 0, none⟩) h h, .int .i64 0, .int .i64 0]) ∧ w'.heap[w.heap.size]? = some (.cells (ik .u8 (K.take h)) 5 (0, 0)) ∧ Rwd gr n 0 w' ∧ Bur gr w w' := by
  have gz : gr < w.heap.size := (Array.getElem?_eq_some_iff.1 hw).1
  have C0 : Hid _ := noneW_any gr gt s n h tv f K w hw
  have C1 : Hid _ := rwHeld_any gr h w ((cell_of_row w gr 3 _ _ _ hw).trans (sg3 _ _ _ _ _))
  have c9 : w.cell? ⟨gr, 69, none⟩ = some (.bool false) := (cell_of_row w gr 69 _ _ _ hw).trans (sg69 _ _ _ _ _ _ _ _ hK)
  obtain ⟨W1, r1, R1, b1, z1⟩ := run_mkB w h (by omega)
  have hw1 : Rwt gr gt s n h tv f K W1 := (b1.block gr gz).trans hw
  have rc := cp_kept W1 w.heap.size gr gt s n h tv f K hK hh hw1 R1
  obtain ⟨W2, hW2⟩ : ∃ W2, W1.setRow w.heap.size (ik .u8 (K.take h)) = W2 := ⟨_, rfl⟩
  rw [hW2] at rc
  have hw2 : Rwt gr gt s n h tv f K W2 := by rw [← hW2]; exact (setRow_other _ _ _ _ (by omega)).trans hw1
  have R2 : W2.heap[w.heap.size]? = some (.cells (ik .u8 (K.take h)) 5 (0, 0)) := by rw [← hW2]; exact setRow_heap _ _ _ _ _ _ R1
  have b2 : Below w.heap.size w W2 := by rw [← hW2]; exact below_setRow b1 (Nat.le_refl _) _
  have C2 : Hid _ := rwAt_any gr n W2 ((cell_of_row W2 gr 2 _ _ _ hw2).trans (sg2 _ _ _ _ _))
  have C3 : Hid (Calls Try.prog 59 #[.pointer (some ⟨gr, 0, none⟩), .int .i64 (n : Int), .int .i64 0] W2 fun e w' => e = .returned (.tuple #[]) ∧ Hid (w'.heap[w.heap.size]? = some (.cells (ik .u8 (K.take h)) 5 (0, 0)) ∧ Rwd gr n 0 w' ∧ Bur gr w w')) := by
    refine (fin_any gr n 0 _ W2 hw2 (rX_len _ _ _ _ _ _ _ _ hK)).mono ?_
    rintro e w' ⟨he, k1, k2, k3, k4, k5, k6⟩
    refine ⟨he, (k6 _ (by omega)).trans R2, k1, ⟨k2.trans b2.os, k3.trans b2.tape, k4.trans b2.output, by rw [k5]; exact b2.size, fun j hj hn => (k6 j hn).trans (b2.block j hj)⟩⟩
  clear hw hw1 hw2 R1 R2 b1 b2 z1 hW2
  go_enter Try.func23, Try.ntmps23
  go_wp2_with fail
  refine Calls.mono C0.out ?_
  rintro e W ⟨rfl, rfl⟩
  clear C0
  go_wp2_with fail
  refine Calls.mono C1.out ?_
  rintro e W ⟨rfl, rfl⟩
  clear C1
  go_wp2_with fail
  refine Calls.mono C2.out ?_
  rintro e W' ⟨rfl, rfl⟩
  clear C2
  go_wp2_with fail
  refine Calls.mono C3.out ?_
  rintro e W3 ⟨rfl, HE⟩
  clear C3
  go_wp2
  go_ret3
  exact ⟨rfl, HE.out⟩
theorem rclose_done (gr n h : Nat) (w : World) (hw : Rwd gr n h w) : Calls Try.prog 23 #[.pointer (some ⟨gr, 0, none⟩)] w fun e w' => e = .returned (.tuple #[.slice none 0 0, .int .i64 6, .int .i64 0]) ∧ w' = w := by
  have C0 : Hid _ := noneW_done gr n h w hw
  have c9 : w.cell? ⟨gr, 69, none⟩ = some (.bool true) := (cell_of_row w gr 69 _ _ _ hw).trans (sg69 _ _ _ _ _ _ _ _ (by simp))
  clear hw
  go_enter Try.func23, Try.ntmps23
  go_wp2_with fail
  refine Calls.mono C0.out ?_
  rintro e W ⟨rfl, rfl⟩
  go_wp2
  go_ret3
  exact ⟨rfl, rfl⟩
theorem rfeed_done (gr n h : Nat) (pv : Value) (w : World) (hw : Rwd gr n h w) : Calls Try.prog 22 #[.pointer (some ⟨gr, 0, none⟩), pv] w fun e w' => e = .returned (.tuple #[.slice none 0 0, .int .i64 6, .int .i64 0]) ∧ w' = w := by
  have C0 : Hid _ := noneW_done gr n h w hw
  have c9 : w.cell? ⟨gr, 69, none⟩ = some (.bool true) := (cell_of_row w gr 69 _ _ _ hw).trans (sg69 _ _ _ _ _ _ _ _ (by simp))
  clear hw
  go_enter Try.func22, Try.ntmps22
  go_wp2_with fail
  refine Calls.mono C0.out ?_
  rintro e W ⟨rfl, rfl⟩
  go_wp2
  go_ret3
  exact ⟨rfl, rfl⟩
theorem cut_lw {v : Value} {l : List Nat} {w : World} (h : Si .u8 v l w) (k : Nat) (hk : k ≤ l.length) : ∃ o n c, (∀ W, (slB v (some (.int .i64 (k : Int))) none none).run Try.prog W = .ok (.slice o n c) W) ∧ Si .u8 (.slice o n c) (l.drop k) w := by
  rcases h with ⟨rfl, rfl⟩ | ⟨b, off, c, rfl, h2, h3, h4, h5⟩
  · have hk0 : k = 0 := by simpa using hk
    subst hk0
    refine ⟨none, 0, 0, fun W => ?_, .inl ⟨rfl, by simp⟩⟩
    have := run_slice_l (P := Try.prog) W 23 none 0 0 u27 .i64 0 (by omega) (by omega)
    unfold slB
    exact this.trans (by simp [elem27, run_size1 W size5, Result.andThen, sliced])
  · have hl : (l.drop k).length = l.length - k := by rw [List.length_drop]
    have hrun : ∀ W, (slB (.slice (some ⟨b, off, none⟩) l.length c) (some (.int .i64 (k : Int))) none none).run Try.prog W = .ok (.slice (some ⟨b, off + (if k < c then k else 0), none⟩) (l.length - k) (c - k)) W := fun W => by
      have := run_slice_l (P := Try.prog) W 23 (some ⟨b, off, none⟩) l.length c u27 .i64 (k : Int) (by omega) (by omega)
      unfold slB
      rw [this, elem27, run_size1 W size5]
      simp only [Result.andThen, sliced, Int.toNat_natCast, Option.map_some, Nat.mul_one]
      by_cases hq : k < c
      · rw [if_neg (by omega), Go.WideShapes.add_plain, if_pos hq]
      · rw [if_pos (by omega), if_neg hq, Nat.add_zero]
    refine ⟨_, _, _, hrun, .inr ⟨b, off + (if k < c then k else 0), c - k, by rw [hl], by omega, by omega, h4, fun j hj => ?_⟩⟩
    rw [hl] at hj
    rw [if_pos (by omega), show off + k + j = off + (k + j) by omega, h5 (k + j) (by omega)]
    simp [List.getD, List.getElem?_drop]
theorem cut_hm {v : Value} {l : List Nat} {w : World} (h : Si .u8 v l w) (k : Nat) (hk : k ≤ l.length) : ∃ o, (∀ W, (slB v none (some (.int .i64 (k : Int))) (some (.int .i64 (k : Int)))).run Try.prog W = .ok (.slice o k k) W) ∧ Si .u8 (.slice o k k) (l.take k) w ∧ (∀ j, (Value.slice o k k).ownBlock = some j → v.ownBlock = some j) ∧ ∀ b off n c, v = .slice (some ⟨b, off, none⟩) n c → o = some ⟨b, off, none⟩ := by
  rcases h with ⟨rfl, rfl⟩ | ⟨b, off, c, rfl, h2, h3, h4, h5⟩
  · have hk0 : k = 0 := by simpa using hk
    subst hk0
    refine ⟨none, fun W => ?_, .inl ⟨rfl, by simp⟩, (fun j hj => by cases hj), (fun b off n c h => by cases h)⟩
    have := run_slice_hm (P := Try.prog) W 23 none 0 0 u27 .i64 .i64 0 0 (by omega) (by omega) (by omega)
    unfold slB
    exact this.trans (by simp [elem27, run_size1 W size5, Result.andThen, sliced])
  · have hl : (l.take k).length = k := by rw [List.length_take]; omega
    have hrun : ∀ W, (slB (.slice (some ⟨b, off, none⟩) l.length c) none (some (.int .i64 (k : Int))) (some (.int .i64 (k : Int)))).run Try.prog W = .ok (.slice (some ⟨b, off, none⟩) k k) W := fun W => by
      have := run_slice_hm (P := Try.prog) W 23 (some ⟨b, off, none⟩) l.length c u27 .i64 .i64 (k : Int) (k : Int) (by omega) (by omega) (by omega)
      unfold slB
      rw [this, elem27, run_size1 W size5]
      simp only [Result.andThen, sliced, Int.toNat_natCast, Nat.sub_zero, Nat.zero_mul]
      split
      · rfl
      · rw [Option.map_some, Go.WideShapes.add_plain]; rfl
    refine ⟨_, hrun, .inr ⟨b, off, k, by rw [hl], by omega, by omega, h4, fun j hj => ?_⟩, fun j hj => hj, fun b off n c h => by cases h; rfl⟩
    rw [hl] at hj
    rw [h5 j (by omega)]
    simp [List.getD, hj]
set_option maxRecDepth 100000 in
/-- What is held back is kept. -/
theorem cp_keep (W : World) (gr gt s n h : Nat) (tv : Value) (f : Int) (K e : List Nat) (hK : K.length = 63) (he : e.length ≤ 63) (hw : Rwt gr gt s n h tv f K W) (o : Option Addr) (l c : Nat) (hv : Si .u8 (.slice o l c) e W) :
    ∃ W', (cpB 3 #[.slice (some ⟨gr, 6, none⟩) 63 63, .slice o l c]).run Try.prog W = .ok (goInt e.length) W' ∧ Rwt gr gt s n h tv f (e ++ K.drop e.length) W' ∧ W'.os = W.os ∧ W'.tape = W.tape ∧ W'.output = W.output ∧ W'.heap.size = W.heap.size ∧ ∀ j, j ≠ gr → W'.heap[j]? = W.heap[j]? := by
  have hsame : e = [] → Rwt gr gt s n h tv f (e ++ K.drop e.length) W := fun h0 => by rw [h0]; simpa using hw
  rcases hv with ⟨h1, h2⟩ | ⟨b, off, cap, h1, hc1, hc2, hbl, hcell⟩
  · cases h1
    refine ⟨W, ?_, hsame h2, rfl, rfl, rfl, rfl, fun _ _ => rfl⟩
    rw [h2]
    exact run_copy_nil (P := Try.prog) W 23 23 3 5 ⟨gr, 6, none⟩ _ _ Try.underlying23 (by kernel_rfl)
  · cases h1
    by_cases h0 : e.length = 0
    · have e0 : e = [] := List.length_eq_zero_iff.1 h0
      refine ⟨W, ?_, hsame e0, rfl, rfl, rfl, rfl, fun _ _ => rfl⟩
      rw [h0]
      exact run_copy_none (P := Try.prog) W 23 23 3 5 _ _ _ _ 0 _ Try.underlying23 size5 (by simp)
    have hlen : (e.map fun (x : Nat) => Value.int .u8 (x : Int)).length = e.length := by rw [List.length_map]
    have hsz := rX_len (.pointer (some ⟨gt, 0, none⟩)) (.int .i32 (s : Int)) (.int .i64 (n : Int)) (.int .i64 (h : Int)) tv f K false hK
    have hcp := run_copy_row (P := Try.prog) W 23 23 3 5 gr 6 63 63 ⟨b, off, none⟩ e.length c _ 94 (e.map fun (x : Nat) => Value.int .u8 (x : Int)) Try.underlying23 size5 hw (by rw [hlen]; show e.length = Nat.min e.length 63; have : Nat.min e.length 63 = min e.length 63 := rfl; omega) (fun j v hj => by
      have hj2 : j < e.length := by rw [← hlen]; exact (List.getElem?_eq_some_iff.1 hj).1
      have ev : v = Value.int .u8 ((e.getD j 0 : Nat) : Int) := by
        simp only [List.getElem?_map] at hj
        rw [List.getElem?_eq_getElem hj2] at hj
        simp only [Option.map_some, Option.some.injEq] at hj
        rw [← hj]
        simp [List.getD, hj2]
      rw [ev, Go.WideShapes.add_plain]
      exact hcell j hj2) (by rw [hlen, hsz]; omega) (fun v hv => by obtain ⟨x, _, rfl⟩ := List.mem_map.1 hv; rfl)
    rw [hlen] at hcp
    refine ⟨_, hcp, ?_, rfl, rfl, rfl, by simp, fun j hj => setRow_other _ _ _ _ hj⟩
    have hr := setRow_heap W gr _ (((.pointer (some ⟨gt, 0, none⟩) :: .int .i32 (s : Int) :: .int .i64 (n : Int) :: .int .i64 (h : Int) :: rX tv f K false).toArray.toList.take 6 ++ (e.map fun (x : Nat) => Value.int .u8 (x : Int)) ++ (.pointer (some ⟨gt, 0, none⟩) :: .int .i32 (s : Int) :: .int .i64 (n : Int) :: .int .i64 (h : Int) :: rX tv f K false).toArray.toList.drop (6 + e.length)).toArray) 94 _ hw
    unfold Rwt Scg
    rw [hr]
    congr 2
    have hd : ((K.map fun (x : Nat) => Value.int .u8 (x : Int)) ++ [Value.bool false]).drop e.length = ((K.drop e.length).map fun (x : Nat) => Value.int .u8 (x : Int)) ++ [Value.bool false] := by
      rw [List.drop_append_of_le_length (by rw [List.length_map]; omega), List.map_drop]
    simp only [rX, List.take_succ_cons, List.take_zero, List.map_append, List.append_assoc]
    rw [show 6 + e.length = e.length + 1 + 1 + 1 + 1 + 1 + 1 by omega]
    simp only [List.drop_succ_cons, hd]
    rfl
/-- Bytes that may be written over. -/
def Wb (B : Nat) (o : Option Addr) (n : Nat) (w : World) : Prop := n = 0 ∨ ∃ g cur ty, o = some ⟨g, 0, none⟩ ∧ B ≤ g ∧ w.heap[g]? = some (.cells cur ty (0, 0)) ∧ n ≤ cur.size ∧ ty = 5
theorem own_wb {W : World} {B N k : Nat} {o o' : Option Addr} {c : Nat} {xs : List Value} (h : W.ownsRow B 5 1 (.slice o N c) N xs) (ho : ∀ b off n c', Value.slice o N c = .slice (some ⟨b, off, none⟩) n c' → o' = some ⟨b, off, none⟩) (hk : k ≤ N) : Wb B o' k W := by
  rcases Nat.eq_zero_or_pos k with h0 | h0
  · exact .inl h0
  · obtain ⟨h1, ⟨h2, h3⟩ | ⟨g, cap', cur, hv, h3, h4, h5, h6, h7, h8⟩⟩ := h
    · cases h2; omega
    · exact .inr ⟨g, cur, 5, ho _ _ _ _ hv, h3, h4, by omega, rfl⟩
/-- What Feed answers. -/
def RfP (gr gt s' n' h' : Nat) (tv : Value) (f : Int) (m : Nat) (P K : List Nat) (N n h : Nat) (H : List (Int × Int)) (B : Nat) (e : Ending) (w' : World) : Prop :=
  ((ovP f m H).2 = true ∧ e = .returned (.tuple #[.slice none 0 0, .int .i64 52, .int .i64 (ovP f m H).1]) ∧ Rwd gr n h w') ∨
  ((ovP f m H).2 = false ∧ ∃ o, e = .returned (.tuple #[.slice o (N - h') (N - h'), .int .i64 0, .int .i64 0]) ∧ Si .u8 (.slice o (N - h') (N - h')) (P.take (N - h')) w' ∧ Wb B o (N - h') w' ∧ Rwt gr gt s' n' h' tv (frN f m H) (P.drop (N - h') ++ K.drop h') w')
attribute [local go_sem ↓] toSlB
set_option maxRecDepth 100000 in
set_option maxHeartbeats 1600000 in
theorem rfeed_any (gr gt s n h : Nat) (tv : Value) (f : Int) (K : List Nat) (hK : K.length = 63) (T : List ByteArray) (m : Nat) (H : List (Int × Int)) (hm0 : 0 < H.length → 0 < m) (hT : ∀ s ∈ T, s.size = m) (t : Tbl) (hwk : Wk t) (hwd : t.width = m) (G : Nat → Prop) (hG : Gd t G) (hs : G s) (hn : n ≤ 1125899906842624) (hh : h ≤ 63) (hhn : h ≤ n) (p : List Nat) (hpb : Byt p) (hpl : p.length ≤ 1073741824) (pv : Value) (w : World) (hR : Rwt gr gt s n h tv f K w) (ht : TabK gr gt t w) (hp : Si .u8 pv p w) (hpg : pv.ownBlock ≠ some gr) (hTv : St tv T w) (hTg : tv.ownBlock ≠ some gr)
    (hH : fnd t s n p = H) (hHr : Rg H) (hin : ∀ x ∈ H, Hin (n - h) (h + p.length) m T.length x) (hN : t.depths.getD (rn t s p) 0 ≤ h + p.length) (h63 : t.depths.getD (rn t s p) 0 ≤ 63) :
    Calls Try.prog 22 #[.pointer (some ⟨gr, 0, none⟩), pv] w fun e w' => Bur gr w w' ∧ RfP gr gt (rn t s p) (n + p.length) (t.depths.getD (rn t s p) 0) tv f m (puts T (n - h) (K.take h ++ p) H) K (h + p.length) n h H w.heap.size e w' := by
  have C0 : Hid _ := noneW_any gr gt s n h tv f K w hR
  have C1 : Hid _ := take_any gr gt s n h tv f K hK T m H hm0 hT t hwk hwd G hG hs hn hh hhn p hpb hpl pv w hR ht hp hpg hTv hTg hH hHr hin
  have c9 : w.cell? ⟨gr, 69, none⟩ = some (.bool false) := (cell_of_row w gr 69 _ _ _ hR).trans (sg69 _ _ _ _ _ _ _ _ hK)
  have HPL : Hid ((puts T (n - h) (K.take h ++ p) H).length = h + p.length) := by
    have hl : (K.take h ++ p).length = h + p.length := by rw [List.length_append, List.length_take]; omega
    show _ = _
    rw [puts_len (m := m) hT H _ (by rw [hl]; exact hin), hl]
  have gz : gr < w.heap.size := (Array.getElem?_eq_some_iff.1 hR).1
  obtain ⟨s', hs'⟩ : ∃ s', s' = rn t s p := ⟨_, rfl⟩
  obtain ⟨h', hh'⟩ : ∃ h', h' = t.depths.getD s' 0 := ⟨_, rfl⟩
  obtain ⟨P, hP⟩ : ∃ P, P = puts T (n - h) (K.take h ++ p) H := ⟨_, rfl⟩
  rw [← hs', ← hh'] at C1 hN h63 ⊢
  rw [← hP] at C1 HPL ⊢
  obtain ⟨N, hNN⟩ : ∃ N, N = h + p.length := ⟨_, rfl⟩
  rw [← hNN] at C1 HPL hN ⊢
  have hNb : N ≤ 1073741887 := by omega
  clear hR ht hp hpg hTv hTg hH hHr hin hT hwk hwd hG hs hpb hs' hh' hP hNN
  go_enter Try.func22, Try.ntmps22
  go_wp2_with fail
  refine Calls.mono C0.out ?_
  rintro e W ⟨rfl, rfl⟩
  clear C0
  go_wp2_with fail
  refine Calls.mono C1.out ?_
  rintro e W1 ⟨hb1, hc1⟩
  clear C1
  rcases hc1 with ⟨x1, rfl, x2⟩ | ⟨x1, v, hv, rfl, x2, x3, x4⟩
  · have HE : Hid (∀ e, e = .returned (.tuple #[.slice none 0 0, .int .i64 52, .int .i64 (ovP f m H).1]) → Bur gr W W1 ∧ RfP gr gt s' (n + p.length) h' tv f m P K N n h H W.heap.size e W1) := fun e he => ⟨hb1, .inl ⟨x1, he, x2⟩⟩
    clear hb1 x1 x2
    go_wp2
    go_ret3
    exact HE.out _ rfl
  · obtain ⟨ov1, cv1, hv1⟩ := own_size x2
    subst hv1
    have CH : Hid _ := rwHeld_any gr h' W1 ((cell_of_row W1 gr 3 _ _ _ x4).trans (sg3 _ _ _ _ _))
    have sP : Si .u8 (.slice ov1 N cv1) P W1 := own_si x2 HPL.out.symm
    obtain ⟨nn, hnn⟩ : ∃ nn, nn = N - h' := ⟨_, rfl⟩
    have eN : IntKind.i64.wrap ((N : Int) - (h' : Int)) = (nn : Int) := by rw [wi _ (by unfold I64; omega)]; omega
    obtain ⟨o2, l2, c2, u1, u2⟩ := cut_lw sP nn (by rw [HPL.out]; omega)
    obtain ⟨o3, u3, u4, u5, u6⟩ := cut_hm sP nn (by rw [HPL.out]; omega)
    have hdl : (P.drop nn).length = h' := by rw [List.length_drop, HPL.out]; omega
    have x4d : Rwt gr gt s' (n + p.length) h' tv (frN f m H) K W1.drew := x4
    obtain ⟨W2, rc, k1, k2, k3, k4, k5, k6⟩ := cp_keep W1.drew gr gt s' (n + p.length) h' tv (frN f m H) K (P.drop nn) hK (by omega) x4d o2 l2 c2 u2
    rw [hdl] at rc k1
    have HE : Hid (∀ e, e = .returned (.tuple #[.slice o3 nn nn, .int .i64 0, .int .i64 0]) → Bur gr W W2 ∧ RfP gr gt s' (n + p.length) h' tv f m P K N n h H W.heap.size e W2) := fun e he => by
      have k5' : W2.heap.size = W1.heap.size := k5
      have k6' : ∀ j, j ≠ gr → W2.heap[j]? = W1.heap[j]? := k6
      refine ⟨⟨k2.trans hb1.os, k3.trans hb1.tape, k4.trans hb1.output, by have := hb1.size; omega, fun j hj hn => (k6' j hn).trans (hb1.block j hj hn)⟩, .inr ⟨x1, o3, by rw [← hnn]; exact he, ?_, ?_, ?_⟩⟩
      · rw [← hnn]
        exact u4.keep (by omega) fun k hk _ => k6' k (by have := (x2.lt k (u5 k hk)).1; omega)
      · rw [← hnn]
        rcases own_wb x2 u6 (show nn ≤ N by omega) with z | ⟨g0, cur0, ty0, z1, z2, z3, z4⟩
        · exact .inl z
        · exact .inr ⟨g0, cur0, ty0, z1, z2, (k6' g0 (by omega)).trans z3, z4⟩
      · rw [← hnn]
        exact k1
    clear x1 x2 x3 x4 x4d sP u2 u4 u5 u6 k1 k2 k3 k4 k5 k6 hdl hnn HPL hb1
    go_wp2_with fail
    refine Calls.mono CH.out ?_
    rintro e W1' ⟨rfl, rfl⟩
    clear CH
    go_wp2_with fail
    go_big_region
    go_wp2
    go_ret3
    exact HE.out _ rfl
end Go.Proofs.Ytceaklefdahfkab
