/- JournalReplays: the document's sum of bytes, and its numbers. -/
import Derived.Test.YtlhpkpedooklnaaDoorJrD
namespace Go.Proofs.YtlhpkpedooklnaaDoor
open Go.RowKit
theorem u32_and1 (a : Nat) (h : a < 4294967296) : bits BinOp.and IntKind.u32 (a : Int) 1 = ((a % 2 : Nat) : Int) := by
  rw [show (1 : Int) = ((1 : Nat) : Int) from rfl, u32_and_nat a 1 h (by decide), Nat.and_two_pow_sub_one_eq_mod a 1]
theorem u32_xorP (a : Nat) (h : a < 4294967296) : bits BinOp.xor IntKind.u32 (a : Int) 3988292384 = ((a ^^^ P32 : Nat) : Int) := by
  rw [show (3988292384 : Int) = ((3988292384 : Nat) : Int) from rfl, u32_xor_nat a 3988292384 h (by decide)]
  rfl
theorem mea9 {N i : Nat} (h : i < N) : N - (intOf (Value.int .i64 ((i + 1 : Nat) : Int))).toNat < N - (intOf (Value.int .i64 (i : Int))).toNat := by simp only [intOf]; omega
set_option maxRecDepth 100000 in
set_option maxHeartbeats 1600000 in
theorem crcR_any (l : List Nat) (hb : Byt l) (hl : l.length ≤ 281474976710656) (v : Value) (w : World) (hv : Bl w v l) :
    Calls Tryd.prog 30 #[v] w fun e w' => e = .returned (.int .u32 ((crcN l : Nat) : Int)) ∧ w' = w := by
  obtain ⟨o, c, rfl, _, _, _, ho⟩ := hv.cells
  clear hv
  go_enter Tryd.func30, Tryd.ntmps30
  go_wp2_with fail
  go_loopw [3, 4] (fun r i wr => ∃ k x : Nat, i = .int .i64 (k : Int) ∧ r = .int .u32 (x : Int) ∧ Hid (x = reg l k) ∧ k ≤ l.length ∧ wr = w) (fun _ i _ => l.length - (intOf i).toNat)
  case atStart => exact ⟨0, 4294967295, rfl, rfl, rfl, by omega, rfl⟩
  case round =>
    obtain ⟨k, x, rfl, rfl, HX, hk, hwr⟩ := hrel
    subst hwr
    have hx32 : x < 4294967296 := by rw [HX.out]; exact reg_lt l hb k
    by_cases hlt : k < l.length
    · obtain ⟨b1, o1, rfl, hb1, hc1⟩ := ho (by omega)
      have hk0 : (0 : Int) ≤ (k : Int) := by omega
      have hk1 : (k : Int) < (l.length : Int) := by omega
      obtain ⟨y, hy⟩ : ∃ y, y = l.getD k 0 := ⟨_, rfl⟩
      have hy256 : y < 256 := by rw [hy]; exact getD_byt hb _
      have cy : wr.cell? ⟨b1, o1 + k, none⟩ = some (.int .u8 (y : Int)) := by rw [hy]; exact hc1 k hlt
      have HN : Hid (btR x y 8 = reg l (k + 1)) := by
        show _ = _
        rw [btR_8 x y hy256, reg_next, ← HX.out, ← hy]
      clear hy HX ho hc1
      go_wp2_with fail
      go_loopw [3, 5] (fun r j wr' => ∃ m z : Nat, j = .int .i64 (m : Int) ∧ r = .int .u32 (z : Int) ∧ Hid (z = btR x y m) ∧ m ≤ 8 ∧ wr' = wr) (fun _ j _ => 8 - (intOf j).toNat)
      case atStart => exact ⟨0, x, rfl, rfl, rfl, by omega, rfl⟩
      case round =>
        obtain ⟨m, z, rfl, rfl, HZ, hm, hwr'⟩ := hrel
        subst hwr'
        have hz32 : z < 4294967296 := by rw [HZ.out]; exact btR_lt x y hx32 m
        by_cases hm8 : m < 8
        · have hm0 : (0 : Int) ≤ (m : Int) := by omega
          have hm1 : (m : Int) < 8 := by omega
          have hyM : (y : Int) % 4294967296 = (y : Int) := by omega
          have hyW : IntKind.u32.wrap (y : Int) = (y : Int) := by rw [IntKind.wrap_u32]; omega
          have hA := u32_and1 z hz32
          have hq : y / 2 ^ m < 4294967296 := Nat.lt_of_le_of_lt (Nat.div_le_self _ _) (by omega)
          have hB : bits BinOp.and IntKind.u32 ((y : Int) / 2 ^ m) 1 = ((y / 2 ^ m % 2 : Nat) : Int) := by
            rw [← u32_and1 _ hq]; congr 1
          have HB : Hid (bt z (y / 2 ^ m % 2) = btR x y (m + 1)) := by show _ = _; rw [HZ.out]; rfl
          generalize y / 2 ^ m % 2 = β at *
          have hX := u32_xorP (z / 2) (by omega)
          rw [show ((z / 2 : Nat) : Int) = (z : Int) / 2 by omega] at hX
          have hne : ((((z % 2 : Nat) : Int)) != (β : Int)) = !decide (z % 2 = β) := by
            rw [bne, beq_int]
          clear HZ
          by_cases hc : z % 2 = β
          · have HC : Hid (z / 2 = btR x y (m + 1)) := by show _ = _; rw [← HB.out]; simp [bt, hc]
            have hne' : (bits BinOp.and IntKind.u32 (z : Int) 1 != bits BinOp.and IntKind.u32 ((y : Int) / 2 ^ m) 1) = false := by rw [hA, hB, hne]; simp [hc]
            clear hA hB hne
            go_wp2_with fail
            exact ⟨⟨m + 1, z / 2, by simp, by simp, HC, by omega, trivial⟩, by simp only [intOf]; omega⟩
          · have HC : Hid (z / 2 ^^^ P32 = btR x y (m + 1)) := by show _ = _; rw [← HB.out]; simp [bt, hc]
            have hne' : (bits BinOp.and IntKind.u32 (z : Int) 1 != bits BinOp.and IntKind.u32 ((y : Int) / 2 ^ m) 1) = true := by rw [hA, hB, hne]; simp [hc]
            clear hA hB hne
            go_wp2_with fail
            exact ⟨⟨m + 1, z / 2 ^^^ P32, by simp, rfl, HC, by omega, trivial⟩, by simp only [intOf]; omega⟩
        · have hm1 : ¬ ((m : Int) < 8) := by omega
          have hme : m = 8 := by omega
          have HE : Hid (z = reg l (k + 1)) := by show _ = _; rw [HZ.out, hme]; exact HN.out
          go_wp2
          exact ⟨⟨k + 1, z, rfl, rfl, HE, by omega, trivial⟩, mea9 hlt⟩
    · have hk1 : ¬ ((k : Int) < (l.length : Int)) := by omega
      have hke : k = l.length := by omega
      have hnot := not_u32 x hx32
      have HE : Hid (F32 ^^^ x = crcN l) := by show _ = _; unfold crcN; rw [HX.out, hke]
      obtain ⟨z, hz⟩ : ∃ z, z = F32 ^^^ x := ⟨_, rfl⟩
      rw [← hz] at hnot HE
      clear hz
      go_wp2
      go_ret
      exact ⟨by rw [← HE.out]; rfl, rfl⟩
theorem drop_cons {l : List Nat} {k : Nat} (h : k < l.length) : l.drop k = l.getD k 0 :: l.drop (k + 1) := by
  rw [List.drop_eq_getElem_cons h]
  simp [List.getD, h]
/-- A number of the document: -1 where it is too great. -/
def lowN (n : Nat) : Int := if n ≤ 4611686018427387904 then (n : Int) else -1
open JM in
set_option maxRecDepth 100000 in
set_option maxHeartbeats 1600000 in
theorem low_any (v : Value) (l : List Nat) (W : World) (hl : Bl W v l) (h8 : l.length ≤ 8) : Calls Tryd.prog 21 #[v] W fun e w' => e = .returned (.int .i64 (lowN (le l))) ∧ w' = W := by
  obtain ⟨oa, cap, rfl, hc, hm, hb, hx⟩ := hl.cells
  clear hl
  go_enter Tryd.func21, Tryd.ntmps21
  go_wp2_with fail
  go_loopw [3, 4] (fun nv kv wr => ∃ k n : Nat, kv = .int .i64 ((k : Int) - 1) ∧ nv = .int .u64 (n : Int) ∧ Hid (n = le (l.drop k)) ∧ k ≤ l.length ∧ wr = W) (fun _ kv _ => ((intOf kv) + 1).toNat)
  case atStart => exact ⟨l.length, 0, rfl, rfl, by show _ = _; rw [List.drop_length]; rfl, by omega, rfl⟩
  case round =>
    obtain ⟨k, n, rfl, rfl, HN, hk, rfl⟩ := hrel
    by_cases hlt : 0 < k
    · obtain ⟨g, o, rfl, _, hcell⟩ := hx (by omega)
      obtain ⟨j, rfl⟩ : ∃ j, k = j + 1 := ⟨k - 1, by omega⟩
      have c1 := hcell j (by omega)
      have hxb := getD_byt hb j
      have hln := le_lt (l.drop (j + 1)) (fun x hx => hb x (List.mem_of_mem_drop hx))
      have hp : (256 : Nat) ^ (l.drop (j + 1)).length ≤ 256 ^ 7 := Nat.pow_le_pow_right (by decide) (by rw [List.length_drop]; omega)
      rw [← HN.out] at hln
      have hn7 : n < 72057594037927936 := Nat.lt_of_lt_of_le hln hp
      have HE : Hid (n * 256 + l.getD j 0 = le (l.drop j)) := by
        show _ = _
        rw [drop_cons (by omega : j < l.length), le, ← HN.out]; omega
      have ej : ((j + 1 : Nat) : Int) - 1 = (j : Int) := by omega
      have k0 : (0 : Int) ≤ (j : Int) := by omega
      have k1 : (j : Int) < (l.length : Int) := by omega
      clear hln hp HN hx hcell
      generalize l.getD j 0 = x at *
      rw [ej]
      go_wp2_with fail
      exact ⟨⟨j, n * 256 + x, rfl, by simp, HE, by omega, trivial⟩, by simp only [intOf]; omega⟩
    · have hk2 : k = 0 := by omega
      subst hk2
      have HE : Hid (n = le l) := HN.out
      have hn8 : n < 18446744073709551616 := by
        have := le_lt l hb
        rw [← HE.out] at this
        exact Nat.lt_of_lt_of_le this (Nat.le_trans (Nat.pow_le_pow_right (by decide) h8) (by decide))
      by_cases h62 : n ≤ 4611686018427387904
      · go_wp2_with fail
        go_ret
        exact ⟨by rw [← HE.out, lowN, if_pos h62]; rfl, rfl⟩
      · go_wp2_with fail
        go_ret
        exact ⟨by rw [← HE.out, lowN, if_neg h62]; rfl, rfl⟩
end Go.Proofs.YtlhpkpedooklnaaDoor
