/- Sets of nodes as bits. -/
import Derived.Test.YtagfkgedfjlnkaaGi
import Derived.Test.YtagfkgedfjlnkaaGlM
import Derived.Laws.Bits64b
namespace Go.Proofs.Ytagfkgedfjlnkaa
open Go.RowKit
/-- Words as values. -/
def uw (l : List Nat) : Array Value := (l.map fun (n : Nat) => Value.int .u64 (n : Int)).toArray
theorem uw_size (l : List Nat) : (uw l).size = l.length := by simp [uw]
theorem uw_get (l : List Nat) (j : Nat) (h : j < l.length) : (uw l)[j]? = some (.int .u64 ((l.getD j 0 : Nat) : Int)) := by simp [uw, List.getD, h]
theorem uw_set (l : List Nat) (j x : Nat) : (uw l).setIfInBounds j (.int .u64 (x : Int)) = uw (l.set j x) := by simp [uw, List.map_set]
/-- Words that are a set of nodes. -/
structure Wb (f : Nat → Bool) (l : List Nat) : Prop where
  len : l.length = 16
  lt : ∀ i, l.getD i 0 < 18446744073709551616
  bit : ∀ v, v < 1024 → (l.getD (v / 64) 0).testBit (v % 64) = f v
theorem Wb.congr {f g : Nat → Bool} {l : List Nat} (h : Wb f l) (hg : ∀ v, v < 1024 → f v = g v) : Wb g l := ⟨h.len, h.lt, fun v hv => (h.bit v hv).trans (hg v hv)⟩
theorem wb_zero : Wb (fun _ => false) (List.replicate 16 0) := by
  have z : ∀ i, (List.replicate 16 0).getD i 0 = 0 := fun i => by
    rw [List.getD_eq_getElem?_getD, List.getElem?_replicate]
    split <;> rfl
  exact ⟨rfl, fun i => by rw [z]; omega, fun v _ => by rw [z]; simp⟩
theorem getD_zip (A B : List Nat) (h : A.length = B.length) (i : Nat) : (List.zipWith (· ||| ·) A B).getD i 0 = A.getD i 0 ||| B.getD i 0 := by
  by_cases hi : i < A.length
  · have : i < B.length := by omega
    simp [List.getD, List.getElem?_zipWith, hi, this]
  · have : ¬ i < B.length := by omega
    simp [List.getD, List.getElem?_zipWith, hi, this]
theorem Wb.or {f g : Nat → Bool} {A B : List Nat} (h : Wb f A) (h2 : Wb g B) : Wb (fun v => f v || g v) (List.zipWith (· ||| ·) A B) := by
  have hl : A.length = B.length := h.len.trans h2.len.symm
  refine ⟨by simp [h.len, h2.len], fun i => ?_, fun v hv => ?_⟩
  · rw [getD_zip A B hl]
    exact Nat.or_lt_two_pow (n := 64) (h.lt i) (h2.lt i)
  · rw [getD_zip A B hl, Nat.testBit_or, h.bit v hv, h2.bit v hv]
theorem Wb.put {f : Nat → Bool} {A : List Nat} (h : Wb f A) (v : Nat) (hv : v < 1024) : Wb (fun c => f c || c == v) (A.set (v / 64) (A.getD (v / 64) 0 ||| 2 ^ (v % 64))) := by
  have hi : v / 64 < A.length := by rw [h.len]; omega
  have gs : ∀ j, (A.set (v / 64) (A.getD (v / 64) 0 ||| 2 ^ (v % 64))).getD j 0 = if j = v / 64 then A.getD (v / 64) 0 ||| 2 ^ (v % 64) else A.getD j 0 := fun j => by
    by_cases e : j = v / 64
    · subst e
      simp [List.getD, hi]
    · have e' : ¬ v / 64 = j := fun q => e q.symm
      simp [List.getD, e, e']
  refine ⟨by simp [h.len], fun i => ?_, fun c hc => ?_⟩
  · rw [gs]
    split
    · exact Nat.or_lt_two_pow (n := 64) (h.lt _) (Nat.pow_lt_pow_right (by omega) (Nat.mod_lt _ (by omega)))
    · exact h.lt i
  · rw [gs]
    split
    · rename_i e
      rw [Nat.testBit_or, ← e, h.bit c hc, Nat.testBit_two_pow]
      congr 1
      have : (v % 64 = c % 64) ↔ c = v := by omega
      by_cases q : c = v
      · simp [q]
      · have : ¬ v % 64 = c % 64 := fun z => q (this.1 z)
        simp [q, this]
    · rename_i e
      rw [h.bit c hc]
      have : (c == v) = false := by
        simp only [beq_eq_false_iff_ne, ne_eq]
        intro q
        exact e (by rw [q])
      rw [this, Bool.or_false]
theorem has_bit (x c : Nat) (hx : x < 18446744073709551616) : (bits BinOp.and IntKind.u64 ((x : Int) / 2 ^ c) 1 == 1) = x.testBit c := by
  have e1 : (x : Int) / 2 ^ c = ((x / 2 ^ c : Nat) : Int) := by simp
  have e2 : bits BinOp.and IntKind.u64 ((x / 2 ^ c : Nat) : Int) ((1 : Nat) : Int) = (((x / 2 ^ c) &&& 1 : Nat) : Int) := bits_and_u64_nat _ 1 (Nat.lt_of_le_of_lt (Nat.div_le_self _ _) hx) (by omega)
  have e3 : bits BinOp.and IntKind.u64 ((x : Int) / 2 ^ c) 1 = (((x / 2 ^ c) % 2 : Nat) : Int) := by
    rw [e1, ← Nat.and_one_is_mod]
    exact e2
  rw [e3, Nat.testBit_eq_decide_div_mod_eq]
  by_cases q : x / 2 ^ c % 2 = 1
  · simp [q]
  · have : x / 2 ^ c % 2 = 0 := by omega
    simp [this]
theorem put_bit (x c : Nat) (hx : x < 18446744073709551616) (hc : c < 64) : bits BinOp.or IntKind.u64 (x : Int) (IntKind.u64.wrap (2 ^ c)) = ((x ||| 2 ^ c : Nat) : Int) := by
  have hp : 2 ^ c < 18446744073709551616 := Nat.pow_lt_pow_right (a := 2) (m := c) (n := 64) (by omega) hc
  have e : IntKind.u64.wrap (2 ^ c) = ((2 ^ c : Nat) : Int) := by
    rw [IntKind.wrap_u64]
    have : (2 ^ c : Int) = ((2 ^ c : Nat) : Int) := by simp
    rw [this]
    generalize 2 ^ c = z at hp
    omega
  rw [e]
  exact bits_or_u64_nat x (2 ^ c) hx hp
theorem or_bit (x y : Nat) (hx : x < 18446744073709551616) (hy : y < 18446744073709551616) : bits BinOp.or IntKind.u64 (x : Int) (y : Int) = ((x ||| y : Nat) : Int) := bits_or_u64_nat x y hx hy
set_option maxRecDepth 100000 in
theorem mput_any (b o v x : Nat) (w : World) (hv : v < 1024) (hx : x < 18446744073709551616) (hc : w.cell? ⟨b, o + v / 64, none⟩ = some (.int .u64 (x : Int))) (hf : w.frozen? ⟨b, o + v / 64, none⟩ = false) : Calls Try.prog 17 #[.pointer (some ⟨b, o, none⟩), .int .i64 (v : Int)] w fun e w' => e = .returned (.tuple #[]) ∧ w' = (w.setCell ⟨b, o + v / 64, none⟩ (.int .u64 ((x ||| 2 ^ (v % 64) : Nat) : Int))).drew := by
  have q1 : wrap64 ((v : Int).tdiv 64) = ((v / 64 : Nat) : Int) := by rw [Int.tdiv_eq_ediv_of_nonneg (by omega)]; unfold wrap64; omega
  have q2 : wrap64 ((v : Int).tmod 64) = ((v % 64 : Nat) : Int) := by rw [Int.tmod_eq_emod_of_nonneg (by omega)]; unfold wrap64; omega
  have q3 : (0 : Int) ≤ ((v / 64 : Nat) : Int) := by omega
  have q4 : ((v / 64 : Nat) : Int) < 16 := by omega
  have q5 : (0 : Int) ≤ ((v % 64 : Nat) : Int) := by omega
  have q6 : ((v % 64 : Nat) : Int) < 64 := by omega
  have HE : Hid (bits BinOp.or IntKind.u64 (x : Int) (IntKind.u64.wrap (2 ^ (v % 64))) = ((x ||| 2 ^ (v % 64) : Nat) : Int)) := put_bit x (v % 64) hx (Nat.mod_lt _ (by omega))
  obtain ⟨a, ha⟩ : ∃ a, v / 64 = a := ⟨_, rfl⟩
  obtain ⟨c, hc'⟩ : ∃ c, v % 64 = c := ⟨_, rfl⟩
  rw [ha] at q1 q3 q4 hc hf ⊢
  rw [hc'] at q2 q5 q6 HE ⊢
  clear hv hx
  go_enter Try.func17, Try.ntmps17
  go_wp2_with fail
  go_region
  go_end0
  exact ⟨rfl, by rw [HE.out]⟩
set_option maxRecDepth 100000 in
theorem mhas_any (b o v x : Nat) (w : World) (hv : v < 1024) (hx : x < 18446744073709551616) (hc : w.cell? ⟨b, o + v / 64, none⟩ = some (.int .u64 (x : Int))) : Calls Try.prog 18 #[.pointer (some ⟨b, o, none⟩), .int .i64 (v : Int)] w fun e w' => e = .returned (.bool (x.testBit (v % 64))) ∧ w' = w := by
  have q1 : wrap64 ((v : Int).tdiv 64) = ((v / 64 : Nat) : Int) := by rw [Int.tdiv_eq_ediv_of_nonneg (by omega)]; unfold wrap64; omega
  have q2 : wrap64 ((v : Int).tmod 64) = ((v % 64 : Nat) : Int) := by rw [Int.tmod_eq_emod_of_nonneg (by omega)]; unfold wrap64; omega
  have q3 : (0 : Int) ≤ ((v / 64 : Nat) : Int) := by omega
  have q4 : ((v / 64 : Nat) : Int) < 16 := by omega
  have q5 : (0 : Int) ≤ ((v % 64 : Nat) : Int) := by omega
  have q6 : ((v % 64 : Nat) : Int) < 64 := by omega
  have HE : Hid ((bits BinOp.and IntKind.u64 ((x : Int) / 2 ^ (v % 64)) 1 == 1) = x.testBit (v % 64)) := has_bit x (v % 64) hx
  obtain ⟨a, ha⟩ : ∃ a, v / 64 = a := ⟨_, rfl⟩
  obtain ⟨c, hc'⟩ : ∃ c, v % 64 = c := ⟨_, rfl⟩
  rw [ha] at q1 q3 q4 hc
  rw [hc'] at q2 q5 q6 HE ⊢
  clear hv hx
  go_enter Try.func18, Try.ntmps18
  go_wp2_with fail
  go_ret
  exact ⟨by rw [← HE.out]; rfl, rfl⟩
/-- One block of words is written over; all else is as it was. -/
structure Jn (fb : Nat) (l : List Nat) (w wr : World) : Prop where
  os : wr.os = w.os
  tape : wr.tape = w.tape
  output : wr.output = w.output
  size : wr.heap.size = w.heap.size
  blk : ∀ k, k ≠ fb → wr.heap[k]? = w.heap[k]?
  row : wr.heap[fb]? = some (.cells (uw l) 51 (0, 0))
theorem Jn.drew {fb : Nat} {l : List Nat} {w wr : World} (h : Jn fb l w wr) : Jn fb l w wr.drew := ⟨h.os, h.tape, h.output, h.size, h.blk, h.row⟩
theorem measG (N k : Nat) (h : k < N) : N + 1 - ((k : Int) + 1).toNat < N + 1 - (k : Int).toNat := by omega
def jl (A B : List Nat) (i : Nat) : List Nat := List.zipWith (· ||| ·) (A.take i) (B.take i) ++ A.drop i
theorem jl_zero (A B : List Nat) : jl A B 0 = A := by simp [jl]
theorem jl_end (A B : List Nat) (h : A.length = 16) (h2 : B.length = 16) : jl A B 16 = List.zipWith (· ||| ·) A B := by
  unfold jl
  rw [List.take_of_length_le (by omega), List.take_of_length_le (by omega), List.drop_eq_nil_of_le (by omega), List.append_nil]
theorem jl_len (A B : List Nat) (i : Nat) (hi : i ≤ 16) (h : A.length = 16) (h2 : B.length = 16) : (jl A B i).length = 16 := by
  simp [jl, h, h2]
  omega
theorem jl_get (A B : List Nat) (i : Nat) (hi : i < 16) (h : A.length = 16) (h2 : B.length = 16) : (jl A B i).getD i 0 = A.getD i 0 := by
  unfold jl
  rw [List.getD_eq_getElem?_getD, List.getElem?_append_right (by simp [h, h2]; omega)]
  simp [h, h2]
  have e : i - min i 16 = 0 := by omega
  rw [e]
  simp
theorem jl_succ (A B : List Nat) (i : Nat) (hi : i < 16) (h : A.length = 16) (h2 : B.length = 16) : (jl A B i).set i (A.getD i 0 ||| B.getD i 0) = jl A B (i + 1) := by
  unfold jl
  have l1 : (List.zipWith (· ||| ·) (A.take i) (B.take i)).length = i := by simp [h, h2]; omega
  have ea : A.take (i + 1) = A.take i ++ [A.getD i 0] := by
    rw [List.take_add_one, List.getElem?_eq_getElem (by omega)]
    simp [List.getD, h, hi]
  have eb : B.take (i + 1) = B.take i ++ [B.getD i 0] := by
    rw [List.take_add_one, List.getElem?_eq_getElem (by omega)]
    simp [List.getD, h2, hi]
  have ed : A.drop i = A.getD i 0 :: A.drop (i + 1) := by
    rw [List.drop_eq_getElem_cons (by omega)]
    simp [List.getD, h, hi]
  rw [ea, eb, ed, List.zipWith_append (by simp [h, h2]), List.set_append_right _ _ (by omega), l1, Nat.sub_self]
  simp
set_option maxRecDepth 100000 in
set_option maxHeartbeats 1600000 in
theorem join_any (fb b2 o2 : Nat) (A B : List Nat) (w : World) (hA : A.length = 16) (hB : B.length = 16) (la : ∀ i, A.getD i 0 < 18446744073709551616) (lb : ∀ i, B.getD i 0 < 18446744073709551616) (hr : w.heap[fb]? = some (.cells (uw A) 51 (0, 0))) (hn : b2 ≠ fb) (hc : ∀ i, i < 16 → w.cell? ⟨b2, o2 + i, none⟩ = some (.int .u64 ((B.getD i 0 : Nat) : Int))) : Calls Try.prog 16 #[.pointer (some ⟨fb, 0, none⟩), .pointer (some ⟨b2, o2, none⟩)] w fun e w' => e = .returned (.tuple #[]) ∧ Jn fb (List.zipWith (· ||| ·) A B) w w' := by
  have HH : Hid (A.length = 16 ∧ B.length = 16 ∧ (∀ i, A.getD i 0 < 18446744073709551616) ∧ (∀ i, B.getD i 0 < 18446744073709551616) ∧ b2 ≠ fb ∧ (∀ i, i < 16 → w.cell? ⟨b2, o2 + i, none⟩ = some (.int .u64 ((B.getD i 0 : Nat) : Int)))) := ⟨hA, hB, la, lb, hn, hc⟩
  have H0 : Hid (Jn fb A w w) := ⟨rfl, rfl, rfl, rfl, fun _ _ => rfl, hr⟩
  clear hA hB la lb hr hn hc
  go_enter Try.func16, Try.ntmps16
  go_wp2_with fail
  go_loopw [5] (fun iv wr => ∃ (i : Nat), iv = .int .i64 (i : Int) ∧ Hid (i ≤ 16 ∧ Jn fb (jl A B i) w wr)) (fun iv _ => 16 + 1 - (intOf iv).toNat)
  case atStart => exact ⟨0, rfl, by omega, by rw [jl_zero]; exact H0.out⟩
  case round =>
    obtain ⟨i, rfl, HI⟩ := hrel
    obtain ⟨hi, jn⟩ := HI.out
    obtain ⟨hA, hB, la, lb, hn, hc⟩ := HH.out
    by_cases h1 : i < 16
    · have c1 : wr.cell? ⟨fb, i, none⟩ = some (.int .u64 ((A.getD i 0 : Nat) : Int)) := by
        rw [cell_of_row wr fb i _ _ _ jn.row, uw_get _ _ (by rw [jl_len A B i hi hA hB]; exact h1), jl_get A B i h1 hA hB]
      have f1 := frozen_of_row wr fb i _ _ jn.row
      have c2 : wr.cell? ⟨b2, o2 + i, none⟩ = some (.int .u64 ((B.getD i 0 : Nat) : Int)) := (World.cell?_of_block (w := w) (jn.blk b2 hn)).trans (hc i h1)
      have HE : Hid (bits BinOp.or IntKind.u64 ((A.getD i 0 : Nat) : Int) ((B.getD i 0 : Nat) : Int) = ((A.getD i 0 ||| B.getD i 0 : Nat) : Int)) := or_bit _ _ (la i) (lb i)
      have HJ : Hid (Jn fb (jl A B (i + 1)) w (wr.setCell ⟨fb, i, none⟩ (.int .u64 ((A.getD i 0 ||| B.getD i 0 : Nat) : Int)))) := by
        refine ⟨jn.os, jn.tape, jn.output, by simp [jn.size], fun k hk => (heap_setCell_other _ _ _ _ (by show k ≠ fb; exact hk)).trans (jn.blk k hk), ?_⟩
        rw [heap_setCell_same _ _ _ _ _ _ jn.row, uw_set, jl_succ A B i h1 hA hB]
      obtain ⟨x, hx⟩ : ∃ x, A.getD i 0 = x := ⟨_, rfl⟩
      obtain ⟨y, hy⟩ : ∃ y, B.getD i 0 = y := ⟨_, rfl⟩
      rw [hx] at c1 HE HJ
      rw [hy] at c2 HE HJ
      have HI1 : Hid (i < 16) := h1
      have i0 : (0 : Int) ≤ (i : Int) := by omega
      have i1 : (i : Int) < 16 := by omega
      have w1' : wrap64 ((i : Int) + 1) = (i : Int) + 1 := by unfold wrap64; omega
      clear hi jn hA hB la lb hn hc h1 HI hx hy
      go_wp2_with fail
      go_region
      rw [HE.out]
      go_wp2_with fail
      go_roundw
      · exact ⟨i + 1, by go_num, HI1.out, HJ.out.drew⟩
      · exact measG 16 i HI1.out
    · have i1 : ¬ ((i : Int) < 16) := by omega
      have HE : Hid (Jn fb (List.zipWith (· ||| ·) A B) w wr) := by
        have e : i = 16 := by omega
        rw [e, jl_end A B hA hB] at jn
        exact jn
      clear hi jn hA hB la lb hn hc h1 HI
      go_wp2_with fail
      go_end0
      exact ⟨rfl, HE.out⟩
end Go.Proofs.Ytagfkgedfjlnkaa
