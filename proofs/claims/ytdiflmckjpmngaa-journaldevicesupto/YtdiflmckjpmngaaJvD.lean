/- The journal's device: all bytes of a file. -/
import Derived.Test.YtdiflmckjpmngaaJvC
import Derived.RegionTactic
import Derived.BigRegion
namespace Go.Proofs.Ytdiflmckjpmngaa
open Go.RowKit
def slB (v : Value) (lo hi mx : Option Value) : Sem Value := Instr.slice 25 v lo hi mx
theorem toSlB (v : Value) (lo hi mx : Option Value) : Instr.slice 25 v lo hi mx = slB v lo hi mx := rfl
def cpB (ty : Nat) (vs : Array Value) : Sem Value := Builtin.copy_ #[25, 25] ty vs
theorem toCpB (ty : Nat) (vs : Array Value) : Builtin.copy_ #[25, 25] ty vs = cpB ty vs := rfl
theorem elemB : Try.prog.elem 25 = 5 := by kernel_rfl
theorem uB : Try.prog.underlying 25 = some (.slice (Try.prog.elem 25)) := by rw [elemB]; exact Try.underlying25
theorem size5 : (Try.prog.info? 5).map (·.size) = some 1 := by kernel_rfl
theorem run_size5 (w : World) : (sizeOf 5).run Try.prog w = .ok 1 w := by
  cases hq : Try.prog.info? 5 with
  | none => have := size5; rw [hq] at this; cases this
  | some i =>
    have : i.size = 1 := by have := size5; rw [hq] at this; simpa using this
    simp [sizeOf, typeInfo, hq, this]
theorem run_sl (w : World) (g o n c l h K R : Nat) (h1 : l + K = h) (h2 : h ≤ c) (h3 : l + R = c) (h4 : 0 < R) : (slB (.slice (some ⟨g, o, none⟩) n c) (some (.int .i64 (l : Int))) (some (.int .i64 (h : Int))) none).run Try.prog w = .ok (.slice (some ⟨g, o + l, none⟩) K R) w := by
  have := run_slice_lh (P := Try.prog) w 25 (some ⟨g, o, none⟩) n c uB .i64 .i64 (l : Int) (h : Int) (by omega) (by omega) (by omega)
  unfold slB
  rw [this, elemB, run_size5]
  have e1 : (⟨g, o, none⟩ : Addr).add (l * 1) = ⟨g, o + l, none⟩ := by rw [Nat.mul_one, Addr.add_mid]
  simp only [Result.andThen, sliced, Int.toNat_natCast, Option.map_some, e1, if_neg (show ¬ c = l by omega), show h - l = K by omega, show c - l = R by omega]
/-- Parts of a chunk. -/
theorem Ch.top {Q : Nat → Prop} {W : World} {p : Option Addr} {d : List Nat} (h : Ch Q W p d) : (p = none ∧ d = []) ∨ ∃ (g b cap : Nat) (ah : Option Addr) (pre D : List Nat) (K : Nat), p = some ⟨g, 0, none⟩ ∧ W.heap[g]? = some (.cells #[.pointer ah, .int .i64 (pre.length : Int), .slice (some ⟨b, 0, none⟩) D.length cap] 71 (0, 0)) ∧ Q g ∧ Q b ∧ (∀ (j : Nat) u, (bs D)[j]? = some u → W.cell? ⟨b, j, none⟩ = some u) ∧ 0 < K ∧ K ≤ D.length ∧ Ch Q W ah pre ∧ d = pre ++ D.take K ∧ pre.length + K = d.length := by
  cases h with
  | nil => exact .inl ⟨rfl, rfl⟩
  | cons g b cap k ah pre D h1 h2 h3 h4 h5 h6 h7 h8 h9 h10 =>
    exact .inr ⟨g, b, cap, ah, pre, D, k, rfl, h3, h1, h2, h6, h8, h9, h10, rfl, by rw [List.length_append, List.length_take]; omega⟩
theorem sp_at (d pre : List Nat) (cur : Array Value) (D : List Nat) (K : Nat) (hd : ∃ t, d = (pre ++ D.take K) ++ t) (hK : K ≤ D.length) (hsz : cur.size = d.length) (hcur : cur.toList.drop (pre.length + K) = (bs d).drop (pre.length + K)) :
    (cur.toList.take pre.length ++ (bs D).take K ++ cur.toList.drop (pre.length + K)).toArray.size = d.length ∧ (cur.toList.take pre.length ++ (bs D).take K ++ cur.toList.drop (pre.length + K)).toArray.toList.drop pre.length = (bs d).drop pre.length := by
  obtain ⟨t, rfl⟩ := hd
  have hsz2 : cur.toList.length = pre.length + K + t.length := by rw [Array.length_toList, hsz, List.length_append, List.length_append, List.length_take]; omega
  have e1 : (cur.toList.take pre.length).length = pre.length := by rw [List.length_take]; omega
  have e4 : (bs (pre ++ D.take K ++ t)).drop (pre.length + K) = bs t := by rw [bs_app]; exact List.drop_left' (by rw [bs_len, List.length_append, List.length_take]; omega)
  have e5 : (bs (pre ++ D.take K ++ t)).drop pre.length = (bs D).take K ++ bs t := by rw [bs_app, bs_app, bs_take, List.append_assoc]; exact List.drop_left' (bs_len _)
  rw [hcur, e4, e5]
  constructor
  · simp only [List.size_toArray, List.length_append, List.length_take, bs_len]
    omega
  · show (cur.toList.take pre.length ++ (bs D).take K ++ bs t).drop pre.length = _
    rw [List.append_assoc]
    exact List.drop_left' e1
attribute [local go_sem ↓] toSlB toCpB
set_option maxRecDepth 100000 in
set_option maxHeartbeats 1600000 in
theorem bytes_any (Q : Nat → Prop) (c : Array Value) (d : List Nat) (s : Nat) (W : World) (hc : Cn Q W c d s) (hQ : ∀ j, Q j → j < W.heap.size) : Calls Try.prog 37 #[.agg c] W fun e w' => ∃ g, e = .returned (.slice (some ⟨g, 0, none⟩) d.length d.length) ∧ w'.heap[g]? = some (.cells (bs d).toArray 5 (0, 0)) ∧ W.heap.size ≤ g ∧ Below W.heap.size W w' := by
  obtain ⟨p, rfl, hch, hs, hlim⟩ := hc
  have hmk := run_make_row' (P := Try.prog) 25 5 (.int .u8 0) 1 Try.underlying25 info5 rfl .i64 .i64 d.length (by unfold LIM at hlim; omega) (by unfold LIM at hlim; omega)
  obtain ⟨W1, hW1⟩ : ∃ W1, (W.alloc (.cells (cnA p d.length s) 50)).alloc (.cells (madeCells #[.int .u8 0] d.length) 5) = W1 := ⟨_, rfl⟩
  have bW : Below W.heap.size W W1 := by rw [← hW1]; exact below2 _ _ _
  have r1 : W1.heap[W.heap.size + 1]? = some (.cells (madeCells #[.int .u8 0] d.length) 5 (0, 0)) := by rw [← hW1]; exact row2n _ _ _
  have hms : (madeCells #[.int .u8 0] d.length).size = d.length := by simp [madeCells]
  have HC : Hid (Ch Q W p d ∧ d.length ≤ LIM) := ⟨hch, hlim⟩
  have HW : Hid ((W.alloc (.cells (cnA p d.length s) 50)).alloc (.cells (madeCells #[.int .u8 0] d.length) 5) = W1) := hW1
  have HB : Hid (Below W.heap.size W W1 ∧ W1.heap[W.heap.size + 1]? = some (.cells (madeCells #[.int .u8 0] d.length) 5 (0, 0)) ∧ (madeCells #[.int .u8 0] d.length).size = d.length) := ⟨bW, r1, hms⟩
  clear hW1 bW r1 hms hch hs hlim
  unfold cnA at *
  go_enter Try.func37, Try.ntmps37
  go_wp2_with fail
  rw [HW.out]
  go_loopg [4, 5] d.length (fun k ev kv wr => ∃ (q : Option Addr) (d' : List Nat) (E : Nat), kv = .pointer q ∧ ev = .int .i64 (E : Int) ∧ Hid (E = d'.length ∧ k = d'.length ∧ Ch Q W q d' ∧ (∃ t, d = d' ++ t) ∧ Below W.heap.size W wr ∧ ∃ cur, wr.heap[W.heap.size + 1]? = some (.cells cur 5 (0, 0)) ∧ cur.size = d.length ∧ cur.toList.drop d'.length = (bs d).drop d'.length))
  case atStart => exact ⟨p, d, d.length, rfl, rfl, rfl, rfl, HC.out.1, ⟨[], by simp⟩, HB.out.1, _, HB.out.2.1, HB.out.2.2, by rw [List.drop_of_length_le (by rw [Array.length_toList, HB.out.2.2]; exact Nat.le_refl _), List.drop_of_length_le (by rw [bs_len]; exact Nat.le_refl _)]⟩
  case round =>
    obtain ⟨q, d', E, rfl, rfl, HD⟩ := hrel
    obtain ⟨hE, hk, hch, ⟨t, hdt⟩, hbl, cur, hrow, hsz, hdr⟩ := HD.out
    rcases hch.top with ⟨rfl, e0⟩ | ⟨g, b, cap, ah, pre, D, K, rfl, hg, hQg, hQb, hD, hK0, hK1, hah, hd', hlen⟩
    · have HF : Hid (wr.heap[W.heap.size + 1]? = some (.cells (bs d).toArray 5 (0, 0)) ∧ Below W.heap.size W wr) := by
        refine ⟨?_, hbl⟩
        rw [e0] at hdr
        have : cur = (bs d).toArray := by rw [← Array.toArray_toList (xs := cur)]; congr 1
        rw [hrow, this]
      clear hE hk hch hdt hbl hrow hsz hdr e0 HD
      go_wp2_with fail
      go_ret
      exact ⟨W.heap.size + 1, rfl, HF.out.1, by omega, HF.out.2⟩
    · have hgW := (hbl.block g (hQ g hQg)).trans hg
      obtain ⟨M, hM⟩ : ∃ M, M = pre.length := ⟨_, rfl⟩
      rw [← hM] at hgW
      have k0 : wr.drew.cell? ⟨g, 1, none⟩ = some (.int .i64 (M : Int)) := by show wr.cell? _ = _; rw [cell_of_row _ _ _ _ _ _ hgW]; rfl
      have k1 : wr.drew.cell? ⟨g, 2, none⟩ = some (.slice (some ⟨b, 0, none⟩) D.length cap) := by show wr.cell? _ = _; rw [cell_of_row _ _ _ _ _ _ hgW]; rfl
      obtain ⟨R, hR⟩ : ∃ R, M + R = d.length := ⟨d.length - M, by rw [hdt, List.length_append]; omega⟩
      have hEd : E ≤ d.length := by rw [hdt, List.length_append]; omega
      have hsl := fun w => run_sl w (W.heap.size + 1) 0 d.length d.length M E K R (by omega) hEd hR (by omega)
      have hcp := run_copy_row (P := Try.prog) wr.drew 25 25 3 5 (W.heap.size + 1) M K R ⟨b, 0, none⟩ D.length cap cur 5 ((bs D).take K) Try.underlying25 size5 hrow (by rw [List.length_take, bs_len]; exact (Nat.min_comm _ _).trans rfl) (fun j v hv => by
        have hj : j < K := by have := (List.getElem?_eq_some_iff.1 hv).1; rw [List.length_take] at this; omega
        rw [List.getElem?_take_of_lt hj] at hv
        rw [Addr.add_mid, Nat.zero_add]
        exact (World.cell?_of_block (w := W) (a := ⟨b, j, none⟩) (hbl.block b (hQ b hQb))).trans (hD j v hv)) (by rw [List.length_take, bs_len, hsz]; omega) (fun v hv => bs_one D v (List.mem_of_mem_take hv))
      rw [show ((bs D).take K).length = K by rw [List.length_take, bs_len]; omega] at hcp
      simp only [Nat.zero_add] at hsl
      have hsp := sp_at d pre cur D K ⟨t, by rw [hdt, hd']⟩ hK1 hsz (by rw [hlen]; exact hdr)
      rw [← hM] at hsp
      obtain ⟨X, hX⟩ : ∃ X, wr.drew.setRow (W.heap.size + 1) (cur.toList.take M ++ (bs D).take K ++ cur.toList.drop (M + K)).toArray = X := ⟨_, rfl⟩
      have hgne : g ≠ W.heap.size + 1 := by have := hQ g hQg; omega
      have hgX : X.heap[g]? = some (.cells #[.pointer ah, .int .i64 (M : Int), .slice (some ⟨b, 0, none⟩) D.length cap] 71 (0, 0)) := by rw [← hX]; exact (setRow_other _ _ _ _ hgne).trans hgW
      have k2 : X.cell? ⟨g, 1, none⟩ = some (.int .i64 (M : Int)) := by rw [cell_of_row _ _ _ _ _ _ hgX]; rfl
      have k3 : X.cell? ⟨g, 0, none⟩ = some (.pointer ah) := by rw [cell_of_row _ _ _ _ _ _ hgX]; rfl
      have HX : Hid (M < gk ∧ M = pre.length ∧ Ch Q W ah pre ∧ (∃ t, d = pre ++ t) ∧ Below W.heap.size W X ∧ ∃ cur, X.heap[W.heap.size + 1]? = some (.cells cur 5 (0, 0)) ∧ cur.size = d.length ∧ cur.toList.drop M = (bs d).drop M) := by
        refine ⟨by omega, hM, hah, ⟨D.take K ++ t, by rw [hdt, hd', List.append_assoc]⟩, ?_, _, ?_, hsp.1, hsp.2⟩
        · rw [← hX]; exact below_setRow (w := wr.drew) ⟨hbl.os, hbl.tape, hbl.output, hbl.size, hbl.block⟩ (by omega) _
        · rw [← hX]; exact setRow_heap wr.drew _ cur _ _ _ hrow
      rw [hX] at hcp
      have hcp2 : (cpB 3 #[.slice (some ⟨W.heap.size + 1, M, none⟩) K R, .slice (some ⟨b, 0, none⟩) D.length cap]).run Try.prog wr.drew = .ok (goInt K) X := hcp
      clear hE hk hch hdt hbl hrow hsz hdr HD hg hQg hQb hD hK0 hK1 hah hd' hlen hgW hM hR hEd hcp hsp hX hgX hgne hmk
      go_wp2_with fail
      go_region
      go_wp2_with fail
      go_roundg M
      case measure => exact HX.out.1
      case rel =>
        obtain ⟨e1, e2, e3, e4, e5, cur, e6, e7, e8⟩ := HX.out
        exact ⟨ah, pre, M, rfl, rfl, e2, e2, e3, e4, e5, cur, e6, e7, by rw [← e2]; exact e8⟩
end Go.Proofs.Ytdiflmckjpmngaa
