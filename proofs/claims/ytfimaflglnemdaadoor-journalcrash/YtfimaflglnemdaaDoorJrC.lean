/- Crc: the code's. -/
import Derived.Test.YtfimaflglnemdaaDoorJqA
import Derived.Test.YtfimaflglnemdaaDoorJrA
import Derived.BigRegion
namespace Go.Proofs.YtfimaflglnemdaaDoor
open Go.RowKit
/-- The table lies. -/
structure Tc (w : World) : Prop where
  sz : 0 < w.heap.size
  t : ∀ j, j < 16 → w.cell? ⟨0, j, none⟩ = some (.int .u32 ((T16.getD j 0 : Nat) : Int))
theorem Tc.keep {w w' : World} (h : Tc w) (hs : w.heap.size ≤ w'.heap.size) (hb : w'.heap[0]? = w.heap[0]?) : Tc w' :=
  ⟨Nat.lt_of_lt_of_le h.sz hs, fun j hj => (World.cell?_of_block (w := w) hb).trans (h.t j hj)⟩
theorem Tc.below {w w' : World} {B : Nat} (h : Tc w) (hb : Below B w w') (hB : 0 < B) : Tc w' := h.keep hb.size (hb.block _ hB)
theorem u32_and15 (a : Nat) (h : a < 4294967296) : bits BinOp.and IntKind.u32 (a : Int) 15 = ((a % 16 : Nat) : Int) := by
  rw [show (15 : Int) = ((15 : Nat) : Int) from rfl, u32_and_nat a 15 h (by decide), Nat.and_two_pow_sub_one_eq_mod a 4]
theorem not_u32 (x : Nat) (hx : x < 4294967296) : bits BinOp.xor IntKind.u32 (if IntKind.u32.signed = true then -1 else IntKind.u32.max) (x : Int) = ((F32 ^^^ x : Nat) : Int) := by
  show bits BinOp.xor IntKind.u32 4294967295 (x : Int) = _
  rw [show (4294967295 : Int) = ((4294967295 : Nat) : Int) from rfl, u32_xor_nat 4294967295 x (by decide) hx]
  rfl
set_option maxRecDepth 100000 in
set_option maxHeartbeats 1600000 in
theorem crc_any (l : List Nat) (hb : Byt l) (hl : l.length ≤ 281474976710656) (v : Value) (w : World) (hv : Bl w v l) (ht : Tc w) :
    Calls Tryd.prog 73 #[v] w fun e w' => e = .returned (.int .u32 ((crcN l : Nat) : Int)) ∧ w' = w := by
  obtain ⟨o, c, rfl, _, _, _, ho⟩ := hv.cells
  clear hv
  go_enter Tryd.func73, Tryd.ntmps73
  go_wp2_with fail
  go_loopw [3, 8] (fun r i wr => ∃ k x : Nat, i = .int .i64 (k : Int) ∧ r = .int .u32 (x : Int) ∧ Hid (x = reg l k) ∧ k ≤ l.length ∧ wr = w) (fun _ i _ => l.length - (intOf i).toNat)
  case atStart => exact ⟨0, 4294967295, rfl, rfl, rfl, by omega, rfl⟩
  case round =>
    obtain ⟨k, x, rfl, rfl, HX, hk, hwr⟩ := hrel
    subst hwr
    have hx32 : x < 4294967296 := by rw [HX.out]; exact reg_lt l hb k
    by_cases hlt : k < l.length
    · obtain ⟨b1, o1, rfl, hb1, hc1⟩ := ho (by omega)
      have hk0 : (0 : Int) ≤ (k : Int) := by omega
      have hk1 : (k : Int) < (l.length : Int) := by omega
      obtain ⟨y, hy⟩ : ∃ y, y = l.getD k 0 := ⟨_, rfl⟩
      have hy256 : y < 256 := by rw [hy]; exact getD_byt hb _
      have cy : wr.cell? ⟨b1, o1 + k, none⟩ = some (.int .u8 (y : Int)) := by rw [hy]; exact hc1 k hlt
      have hyM : (y : Int) % 4294967296 = (y : Int) := by omega
      have hyW : IntKind.u32.wrap (y : Int) = (y : Int) := by rw [IntKind.wrap_u32]; omega
      obtain ⟨p, hp⟩ : ∃ p, p = x ^^^ y := ⟨_, rfl⟩
      have hp32 : p < 4294967296 := by rw [hp]; exact Nat.xor_lt_two_pow (n := 32) hx32 (by omega)
      have hxor : bits BinOp.xor IntKind.u32 (x : Int) (y : Int) = (p : Int) := by rw [hp]; exact u32_xor_nat x y hx32 (by omega)
      obtain ⟨q, hq⟩ : ∃ q, q = p / 16 := ⟨_, rfl⟩
      obtain ⟨i, hi⟩ : ∃ i, i = p % 16 := ⟨_, rfl⟩
      have hi16 : i < 16 := by omega
      have hpq : (p : Int) / 16 = (q : Int) := by omega
      have hpi : bits BinOp.and IntKind.u32 (p : Int) 15 = (i : Int) := by rw [hi]; exact u32_and15 p hp32
      obtain ⟨τ, hτ⟩ : ∃ τ, τ = T16.getD i 0 := ⟨_, rfl⟩
      have ct := ht.t i hi16
      rw [← hτ] at ct
      have hτ32 : τ < 4294967296 := by rw [hτ]; exact T16_lt ⟨i, hi16⟩
      obtain ⟨s, hs⟩ : ∃ s, s = q ^^^ τ := ⟨_, rfl⟩
      have hs32 : s < 4294967296 := by rw [hs]; exact Nat.xor_lt_two_pow (n := 32) (by omega) hτ32
      have hsx : bits BinOp.xor IntKind.u32 (q : Int) (τ : Int) = (s : Int) := by rw [hs]; exact u32_xor_nat q τ (by omega) hτ32
      obtain ⟨q2, hq2⟩ : ∃ q, q = s / 16 := ⟨_, rfl⟩
      obtain ⟨i2, hi2⟩ : ∃ i, i = s % 16 := ⟨_, rfl⟩
      have hi216 : i2 < 16 := by omega
      have hpq2 : (s : Int) / 16 = (q2 : Int) := by omega
      have hpi2 : bits BinOp.and IntKind.u32 (s : Int) 15 = (i2 : Int) := by rw [hi2]; exact u32_and15 s hs32
      obtain ⟨τ2, hτ2⟩ : ∃ τ, τ = T16.getD i2 0 := ⟨_, rfl⟩
      have ct2 := ht.t i2 hi216
      rw [← hτ2] at ct2
      have hτ232 : τ2 < 4294967296 := by rw [hτ2]; exact T16_lt ⟨i2, hi216⟩
      obtain ⟨s2, hs2⟩ : ∃ s, s = q2 ^^^ τ2 := ⟨_, rfl⟩
      have hsx2 : bits BinOp.xor IntKind.u32 (q2 : Int) (τ2 : Int) = (s2 : Int) := by rw [hs2]; exact u32_xor_nat q2 τ2 (by omega) hτ232
      have HN : Hid (s2 = reg l (k + 1)) := by
        show s2 = zbN 4 (zbN 4 (reg l k ^^^ l.getD k 0))
        rw [← HX.out, ← hy, ← hp, ← step4 p, ← hq, ← hi, ← hτ, ← hs, ← step4 s, ← hq2, ← hi2, ← hτ2, ← hs2]
      have hi0 : (0 : Int) ≤ (i : Int) := by omega
      have hi1 : (i : Int) < 16 := by omega
      have hi20 : (0 : Int) ≤ (i2 : Int) := by omega
      have hi21 : (i2 : Int) < 16 := by omega
      have hqW : IntKind.u32.wrap (q : Int) = (q : Int) := by rw [IntKind.wrap_u32]; omega
      have hqW2 : IntKind.u32.wrap (q2 : Int) = (q2 : Int) := by rw [IntKind.wrap_u32]; omega
      clear hy hp hq hi hτ hs hq2 hi2 hτ2 hs2 HX ho hc1
      go_wp2
      exact ⟨⟨k + 1, s2, rfl, rfl, HN, by omega, trivial⟩, by simp only [intOf]; omega⟩
    · have hk1 : ¬ ((k : Int) < (l.length : Int)) := by omega
      have hke : k = l.length := by omega
      have hnot := not_u32 x hx32
      have HE : Hid (F32 ^^^ x = crcN l) := by show _ = _; unfold crcN; rw [HX.out, hke]
      obtain ⟨z, hz⟩ : ∃ z, z = F32 ^^^ x := ⟨_, rfl⟩
      rw [← hz] at hnot HE
      clear hz
      go_wp2
      go_ret
      exact ⟨by rw [← HE.out]; rfl, rfl⟩
end Go.Proofs.YtfimaflglnemdaaDoor
