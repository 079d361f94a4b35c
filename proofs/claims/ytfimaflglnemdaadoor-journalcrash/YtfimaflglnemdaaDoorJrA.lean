/- JournalReplays: bytes as they lie, numbers of bytes. -/
import Derived.Test.YtfimaflglnemdaaDoorChecked
import Derived.Test.YtfimaflglnemdaaDoorJqA
import Derived.WalkKit
import Derived.RowKitTokens
import Derived.Laws.OwnMore
import Derived.Laws.BitsAllLaws
import Derived.Deep.QuietTactic
import Derived.BigQuiet
namespace Go.Proofs.YtfimaflglnemdaaDoor
open Go.RowKit
def bs (l : List Nat) : List Value := l.map fun (n : Nat) => Value.int .u8 (n : Int)
def Byt (l : List Nat) : Prop := ∀ x ∈ l, x < 256
theorem bs_len (l : List Nat) : (bs l).length = l.length := by simp [bs]
theorem bs_get (l : List Nat) (j : Nat) (h : j < l.length) : (bs l)[j]? = some (.int .u8 ((l.getD j 0 : Nat) : Int)) := by simp [bs, List.getD, h]
/-- Bytes as they lie. -/
def Bl (W : World) (v : Value) (l : List Nat) : Prop :=
  ∃ oa cap, v = .slice oa l.length cap ∧ l.length ≤ cap ∧ cap ≤ maxLen ∧ Byt l ∧ ∀ (j : Nat) u, (bs l)[j]? = some u → ∃ g o, oa = some ⟨g, o, none⟩ ∧ g < W.heap.size ∧ W.cell? ⟨g, o + j, none⟩ = some u
theorem Bl.below {W W' : World} {v : Value} {l : List Nat} (h : Bl W v l) (hb : Below W.heap.size W W') : Bl W' v l := by
  obtain ⟨oa, cap, h1, h2, h3, h4, h5⟩ := h
  refine ⟨oa, cap, h1, h2, h3, h4, fun j u hu => ?_⟩
  obtain ⟨g, o, e1, e2, e3⟩ := h5 j u hu
  exact ⟨g, o, e1, Nat.lt_of_lt_of_le e2 hb.size, (World.cell?_of_block (w := W) (a := ⟨g, o + j, none⟩) (hb.block g e2)).trans e3⟩
/-- By their cells. -/
theorem Bl.cells {W : World} {v : Value} {l : List Nat} (h : Bl W v l) : ∃ oa cap, v = .slice oa l.length cap ∧ l.length ≤ cap ∧ cap ≤ maxLen ∧ Byt l ∧ (0 < l.length → ∃ g o, oa = some ⟨g, o, none⟩ ∧ g < W.heap.size ∧ ∀ j, j < l.length → W.cell? ⟨g, o + j, none⟩ = some (.int .u8 ((l.getD j 0 : Nat) : Int))) := by
  obtain ⟨oa, cap, h1, h2, h3, h4, h5⟩ := h
  refine ⟨oa, cap, h1, h2, h3, h4, fun hp => ?_⟩
  obtain ⟨g, o, e1, e2, _⟩ := h5 0 _ (bs_get l 0 hp)
  refine ⟨g, o, e1, e2, fun j hj => ?_⟩
  obtain ⟨g', o', e1', _, e3'⟩ := h5 j _ (bs_get l j hj)
  rw [e1] at e1'
  cases e1'
  exact e3'
theorem getD_byt {l : List Nat} (h : Byt l) (j : Nat) : l.getD j 0 < 256 := by
  by_cases hj : j < l.length
  · have : l.getD j 0 = l[j] := by simp [List.getD, hj]
    rw [this]; exact h _ (List.getElem_mem hj)
  · have : l.getD j 0 = 0 := by simp [List.getD, hj]
    omega
open JM in
theorem le_snoc : ∀ (l : List Nat) (x : Nat), le (l ++ [x]) = le l + x * 2 ^ (8 * l.length)
  | [], x => by simp [le]
  | b :: r, x => by
    simp only [List.cons_append, le, List.length_cons, le_snoc r x]
    rw [show 8 * (r.length + 1) = 8 * r.length + 8 by omega, Nat.pow_add, Nat.mul_add, Nat.add_assoc]
    congr 2
    rw [← Nat.mul_assoc, ← Nat.mul_assoc, Nat.mul_comm 256 x, Nat.mul_assoc, Nat.mul_assoc, Nat.mul_comm 256]
theorem take_snoc {l : List Nat} {j : Nat} (h : j < l.length) : l.take (j + 1) = l.take j ++ [l.getD j 0] := by
  rw [List.take_add_one]
  simp [List.getD, h]
open JM in
theorem le_take_lt {l : List Nat} (h : Byt l) (j : Nat) (hj : j ≤ l.length) : le (l.take j) < 2 ^ (8 * j) := by
  have := le_lt (l.take j) (fun x hx => h x (List.mem_of_mem_take hx))
  rw [List.length_take, Nat.min_eq_left hj, show (256 : Nat) = 2 ^ 8 by decide, ← Nat.pow_mul] at this
  exact this
theorem or_shift (a x k : Nat) (ha : a < 2 ^ (8 * k)) (hx : x < 256) (hk : k < 8) : bits .or .u64 (a : Int) (IntKind.u64.wrap ((x : Int) * 2 ^ (8 * k))) = ((a + x * 2 ^ (8 * k) : Nat) : Int) := by
  have h1 : (2 : Nat) ^ (8 * k) * 256 ≤ 2 ^ 64 := by
    rw [show (256 : Nat) = 2 ^ 8 by decide, ← Nat.pow_add]
    exact Nat.pow_le_pow_right (by decide) (by omega)
  have h2 : x * 2 ^ (8 * k) < 2 ^ 64 := by
    have : x * 2 ^ (8 * k) < 256 * 2 ^ (8 * k) := Nat.mul_lt_mul_of_pos_right hx (Nat.two_pow_pos _)
    rw [Nat.mul_comm 256] at this
    omega
  have h3 : a < 2 ^ 64 := by
    have := Nat.two_pow_pos (8 * k)
    omega
  have w2 : IntKind.u64.wrap ((x : Int) * 2 ^ (8 * k)) = ((x * 2 ^ (8 * k) : Nat) : Int) := by
    rw [show (x : Int) * 2 ^ (8 * k) = ((x * 2 ^ (8 * k) : Nat) : Int) by simp, IntKind.wrap_u64]
    omega
  rw [w2, u64_or_nat a (x * 2 ^ (8 * k)) h3 h2]
  congr 1
  rw [← Nat.shiftLeft_eq, Nat.or_comm, ← Nat.shiftLeft_add_eq_or_of_lt ha, Nat.add_comm]
theorem mea8 {N i : Nat} (h : i < N) : N - (intOf (Value.int .i64 ((i : Int) + 1))).toNat < N - (intOf (Value.int .i64 (i : Int))).toNat := by simp [intOf]; omega
open JM in
set_option maxRecDepth 100000 in
/-- A number of at most eight bytes. -/
theorem read_any (v : Value) (l : List Nat) (W : World) (hl : Bl W v l) (h8 : l.length ≤ 8) : Calls Tryd.prog 78 #[v] W fun e w' => e = .returned (.int .u64 (le l : Int)) ∧ w' = W := by
  obtain ⟨oa, cap, rfl, hc, hm, hb, hx⟩ := hl.cells
  clear hl
  go_enter Tryd.func78, Tryd.ntmps78
  go_wp2_with fail
  go_loopw [8, 3] (fun kv nv wr => ∃ k : Nat, kv = .int .i64 (k : Int) ∧ nv = .int .u64 ((le (l.take k) : Nat) : Int) ∧ k ≤ l.length ∧ wr = W) (fun kv _ _ => l.length - (intOf kv).toNat)
  case atStart => exact ⟨0, rfl, by simp [le], by omega, rfl⟩
  case round =>
    obtain ⟨k, rfl, rfl, hk, rfl⟩ := hrel
    by_cases hlt : k < l.length
    · obtain ⟨g, o, rfl, _, hcell⟩ := hx (by omega)
      have c1 := hcell k hlt
      have hxb := getD_byt hb k
      have k0 : (0 : Int) ≤ (k : Int) := by omega
      have k1 : (k : Int) < (l.length : Int) := by omega
      have hor := or_shift (le (l.take k)) (l.getD k 0) k (le_take_lt hb k hk) hxb (by omega)
      have hsn : le (l.take (k + 1)) = le (l.take k) + l.getD k 0 * 2 ^ (8 * k) := by
        rw [take_snoc hlt, le_snoc, List.length_take, Nat.min_eq_left hk]
      rw [← hsn] at hor
      have HSN : Hid _ := hsn
      clear hsn hx hcell
      generalize l.getD k 0 = x at *
      generalize hL0 : le (l.take k) = L0 at *
      generalize hL1 : le (l.take (k + 1)) = L1 at *
      go_wp2
      exact ⟨⟨k + 1, by simp, by rw [hL1], by omega, trivial⟩, mea8 hlt⟩
    · have hk2 : k = l.length := by omega
      subst hk2
      rw [List.take_length]
      go_wp2
      go_ret
      exact ⟨rfl, rfl⟩
end Go.Proofs.YtfimaflglnemdaaDoor
