/- The sieve's rewriter: take. -/
import Derived.Test.YtceaklefdahfkaaRw3
import Derived.Deep.RegionHeld3
import Derived.Deep.RegionWith
import Derived.Deep.DrawnRows
import Derived.BigRegion
namespace Go.Proofs.Ytceaklefdahfkaa
open Go.RowKit
/-- Texts put at the places of hits. -/
def puts (T : List ByteArray) (st : Nat) (t : List Nat) (H : List (Int × Int)) : List Nat := H.foldl (fun t x => ovr t (tl (txt T x.2.toNat)) (x.1.toNat - st)) t
/-- The place behind the last hit. -/
def frN (f : Int) (m : Nat) (H : List (Int × Int)) : Int := H.foldl (fun _ x => x.1 + (m : Int)) f
theorem take_snocH {H : List (Int × Int)} {k : Nat} (h : k < H.length) : H.take (k + 1) = H.take k ++ [H.getD k (0, 0)] := by
  rw [List.take_succ_eq_append_getElem h]
  simp [List.getD, h]
theorem puts_snoc (T : List ByteArray) (st : Nat) (t : List Nat) (H : List (Int × Int)) (x : Int × Int) : puts T st t (H ++ [x]) = ovr (puts T st t H) (tl (txt T x.2.toNat)) (x.1.toNat - st) := by simp [puts]
theorem frN_snoc (f : Int) (m : Nat) (H : List (Int × Int)) (x : Int × Int) : frN f m (H ++ [x]) = x.1 + (m : Int) := by simp [frN]
/-- A hit within a text of so many bytes from a place on. -/
def Hin (st N m nT : Nat) (x : Int × Int) : Prop := ∃ i k : Nat, x = ((i : Int), (k : Int)) ∧ st ≤ i ∧ i + m ≤ st + N ∧ k < nT
theorem puts_len {T : List ByteArray} {st m : Nat} (hT : ∀ s ∈ T, s.size = m) : ∀ (H : List (Int × Int)) (t : List Nat), (∀ x ∈ H, Hin st t.length m T.length x) → (puts T st t H).length = t.length
  | [], _, _ => rfl
  | x :: H, t, h => by
    obtain ⟨i, k, rfl, h1, h2, h3⟩ := h x (by simp)
    have hl : (ovr t (tl (txt T k)) (i - st)).length = t.length := ovr_len _ _ _ (by rw [tl_len, hT _ (by rw [txt_eq h3]; exact List.getElem_mem h3)]; omega)
    have := puts_len hT H (ovr t (tl (txt T k)) (i - st)) (fun y hy => by rw [hl]; exact h y (by simp [hy]))
    rw [hl] at this
    exact this
theorem run_cutC (g n c p : Nat) (h : p < n) (hc : n ≤ c) (w : World) : (slB (.slice (some ⟨g, 0, none⟩) n c) (some (.int .i64 (p : Int))) none none).run Try.prog w = .ok (.slice (some ⟨g, p, none⟩) (n - p) (c - p)) w := by
  have := run_slice_l (P := Try.prog) w 27 (some ⟨g, 0, none⟩) n c u27 .i64 (p : Int) (by omega) (by omega)
  unfold slB
  rw [this, elem27, run_size1 w size5]
  simp only [Result.andThen, sliced, Int.toNat_natCast, Option.map_some, Nat.mul_one]
  rw [if_neg (by omega), Go.WideShapes.add_plain, Nat.zero_add]
set_option maxRecDepth 100000 in
/-- A text copied into bytes of one's own. -/
theorem run_cpO (W : World) (ty base g n c o : Nat) (l : List Nat) (s : ByteArray) (ho : W.ownsRow base 5 1 (.slice (some ⟨g, 0, none⟩) n c) n (ik .u8 l).toList) (hfit : o + s.size ≤ n) :
    ∃ W', (cpS ty #[.slice (some ⟨g, o, none⟩) (n - o) (c - o), .string s]).run Try.prog W = .ok (goInt s.size) W' ∧ W'.ownsRow base 5 1 (.slice (some ⟨g, 0, none⟩) n c) n (ik .u8 (ovr l (tl s) o)).toList ∧
      W'.os = W.os ∧ W'.tape = W.tape ∧ W'.output = W.output ∧ W'.heap.size = W.heap.size ∧ ∀ j, j ≠ g → W'.heap[j]? = W.heap[j]? := by
  obtain ⟨h1, ⟨h2, _⟩ | ⟨g', cap', cur, hv, h3, h4, h5, h6, h7, h8⟩⟩ := ho
  · cases h2
  cases hv
  rw [Nat.mul_one] at h1 h7 h8
  have hln : l.length = n := by rw [← h1]; simp [ik]
  have hlen : ((tl s).map fun (x : Nat) => Value.int .u8 (x : Int)).length = s.size := by rw [List.length_map, tl_len]
  have hst := run_storeCells_at Try.prog g o 5 ((tl s).map fun (x : Nat) => Value.int .u8 (x : Int)) 0 _ W h4 (by rw [hlen, h7]; omega) (fun v hv => by obtain ⟨x, _, rfl⟩ := List.mem_map.1 hv; rfl)
  rw [hlen, Nat.add_zero] at hst
  have htk : List.map (fun b : UInt8 => Value.int IntKind.u8 (b.toNat : Int)) s.data.toList = (tl s).map fun (x : Nat) => Value.int .u8 (x : Int) := by
    simp [tl]
  obtain ⟨i0, hi0, hz0, hz1, hz2⟩ := info_parts info5
  have hmn : min s.size (n - o) = s.size := by omega
  have hm : Nat.min s.size (n - o) = s.size := hmn
  refine ⟨W.setRow g (cur.toList.take o ++ (tl s).map (fun (x : Nat) => Value.int .u8 (x : Int)) ++ cur.toList.drop (o + s.size)).toArray, ?_, ⟨by rw [Nat.mul_one, Array.length_toList, ik_size, ovr_len _ _ _ (by rw [tl_len]; omega), hln], .inr ⟨g, c, _, rfl, h3, setRow_heap _ _ _ _ _ _ h4, h5, h6, ?_, ?_⟩⟩, rfl, rfl, rfl, by simp, fun j hj => setRow_other _ _ _ _ hj⟩
  · unfold cpS
    simp [Builtin.copy_, run_underlying Try.underlying27, Builtin.lenOf, Builtin.firstCells, sizeOf, typeInfo, hi0, hm]
    rw [List.take_of_length_le (by simp), htk]
    rw [hst]
    simp [Result.andThen]
  · simp only [List.size_toArray, List.length_append, List.length_take, List.length_drop, Array.length_toList, hlen, h7]
    omega
  · have hA : cur.toList.length = c := by rw [Array.length_toList, h7]
    generalize cur.toList = A at h8 hA ⊢
    have e1 : (ik .u8 (ovr l (tl s) o)).toList = (A.take n).take o ++ (tl s).map (fun (x : Nat) => Value.int .u8 (x : Int)) ++ (A.take n).drop (o + s.size) := by
      rw [h8]
      simp [ik, ovr, tl_len, List.map_drop, List.map_take]
    rw [e1, Nat.mul_one, List.take_take, Nat.min_eq_left (by omega)]
    rw [List.take_append, List.take_of_length_le (by simp [hlen]; omega)]
    have e2 : n - (A.take o ++ (tl s).map (fun (x : Nat) => Value.int .u8 (x : Int))).length = n - (o + s.size) := by rw [List.length_append, List.length_take, hlen, hA]; omega
    rw [e2, List.drop_take]
/-- All but one block stand. -/
structure But (gs : Nat) (w w' : World) : Prop where
  os : w'.os = w.os
  tape : w'.tape = w.tape
  output : w'.output = w.output
  size : w.heap.size ≤ w'.heap.size
  block : ∀ j, j < w.heap.size → j ≠ gs → w'.heap[j]? = w.heap[j]?
theorem But.trans {g : Nat} {a b c : World} (h : But g a b) (k : But g b c) : But g a c := ⟨k.os.trans h.os, k.tape.trans h.tape, k.output.trans h.output, Nat.le_trans h.size k.size, fun j hj hn => (k.block j (Nat.lt_of_lt_of_le hj h.size) hn).trans (h.block j hj hn)⟩
theorem but_of {g : Nat} {a b : World} (h : Below a.heap.size a b) : But g a b := ⟨h.os, h.tape, h.output, h.size, fun j hj _ => h.block j hj⟩
end Go.Proofs.Ytceaklefdahfkaa
