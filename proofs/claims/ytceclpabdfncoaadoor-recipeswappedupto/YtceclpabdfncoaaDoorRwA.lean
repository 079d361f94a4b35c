/- The laws' word and cut. -/
import Derived.Test.YtceclpabdfncoaaDoorRsP
namespace Go.Proofs.YtceclpabdfncoaaDoor.Re
open Go.RowKit
def LET : S := ⟨#[97, 98, 99, 100, 101, 102, 103, 104, 105, 106, 107, 108, 109, 110, 111, 112, 113, 114, 115, 116, 117, 118, 119, 120, 121, 122]⟩
/-- A text of some length at most, and nothing but draws. -/
def TxP (k : Nat) (w : World) (e : Ending) (w' : World) : Prop := ∃ s : S, e = .returned (.string s) ∧ s.size ≤ k ∧ ∃ m, w' = w.drewN m
theorem cut_any (s : S) (w : World) : Calls Tryd.prog 11 #[.string s] w (TxP 200 w) := by
  by_cases h : 200 < s.size
  · have h1 : (200 : Int) < (s.size : Int) := by omega
    have h2 : (200 : Int) ≤ (s.size : Int) := by omega
    have HS : Hid ((s.extract 0 200).size ≤ 200) := by show _ ≤ _; rw [← bl_len, bl_ext]; simp; omega
    clear h
    go_enter Tryd.func11, Tryd.ntmps11
    go_wp2_with fail
    go_ret
    exact ⟨_, rfl, HS.out, 0, rfl⟩
  · have h1 : ¬ ((200 : Int) < (s.size : Int)) := by omega
    have HS : Hid (s.size ≤ 200) := by show _ ≤ _; omega
    clear h
    go_enter Tryd.func11, Tryd.ntmps11
    go_wp2_with fail
    go_ret
    exact ⟨_, rfl, HS.out, 0, rfl⟩
theorem ext_sz (s : S) (a : Nat) : (s.extract a (a + 1)).size ≤ 1 := by
  rw [← bl_len, bl_ext]
  simp
  omega
set_option maxRecDepth 100000 in
set_option maxHeartbeats 1000000 in
theorem word_any (z : Int) (h1 : -9223372036854775808 ≤ z) (h2 : z ≤ 9223372036854775807) (w : World) : Calls Tryd.prog 10 #[.int .i64 z] w (TxP 3 w) := by
  obtain ⟨n, hn, hz⟩ : ∃ n : Nat, (0 ≤ z → z = (n : Int)) ∧ (z < 0 → -(z + 1) = (n : Int)) := by
    by_cases q : 0 ≤ z
    · exact ⟨z.toNat, fun _ => by omega, fun q2 => by omega⟩
    · exact ⟨(-(z + 1)).toNat, fun q2 => by omega, fun _ => by omega⟩
  obtain ⟨m, hm, hml⟩ : ∃ m : Nat, (n : Int) % 17576 = (m : Int) ∧ m < 17576 := ⟨n % 17576, by omega, by omega⟩
  obtain ⟨a, ha, hal⟩ : ∃ a : Nat, (m : Int) / 676 = (a : Int) ∧ a + 1 ≤ 26 := ⟨m / 676, by omega, by omega⟩
  obtain ⟨b', hb'⟩ : ∃ b : Nat, (m : Int) / 26 = (b : Int) := ⟨m / 26, by omega⟩
  obtain ⟨b, hb, hbl⟩ : ∃ b : Nat, (b' : Int) % 26 = (b : Int) ∧ b + 1 ≤ 26 := ⟨b' % 26, by omega, by omega⟩
  obtain ⟨c, hc, hcl⟩ : ∃ b : Nat, (m : Int) % 26 = (b : Int) ∧ b + 1 ≤ 26 := ⟨m % 26, by omega, by omega⟩
  have wa : IntKind.i64.wrap ((a : Int) + 1) = (a : Int) + 1 := by rw [IntKind.wrap_i64]; omega
  have wb : IntKind.i64.wrap ((b : Int) + 1) = (b : Int) + 1 := by rw [IntKind.wrap_i64]; omega
  have wc : IntKind.i64.wrap ((c : Int) + 1) = (c : Int) + 1 := by rw [IntKind.wrap_i64]; omega
  have a0 : (0 : Int) ≤ (a : Int) := by omega
  have a1 : (a : Int) + 1 ≤ 26 := by omega
  have b0 : (0 : Int) ≤ (b : Int) := by omega
  have b1 : (b : Int) + 1 ≤ 26 := by omega
  have c0 : (0 : Int) ≤ (c : Int) := by omega
  have c1 : (c : Int) + 1 ≤ 26 := by omega
  have m0 : (0 : Int) ≤ (m : Int) := by omega
  have n0 : (0 : Int) ≤ (n : Int) := by omega
  have bb0 : (0 : Int) ≤ (b' : Int) := by omega
  obtain ⟨sa, hsa⟩ : ∃ s, LET.extract a (a + 1) = s := ⟨_, rfl⟩
  obtain ⟨sb, hsb⟩ : ∃ s, LET.extract b (b + 1) = s := ⟨_, rfl⟩
  obtain ⟨sc, hsc⟩ : ∃ s, LET.extract c (c + 1) = s := ⟨_, rfl⟩
  have HS : Hid (sa.size ≤ 1 ∧ sb.size ≤ 1 ∧ sc.size ≤ 1) := ⟨hsa ▸ ext_sz _ _, hsb ▸ ext_sz _ _, hsc ▸ ext_sz _ _⟩
  have q1 : ¬ (9223372036854775807 < sa.size + sb.size) := by have := HS.out; omega
  have q2 : ¬ (9223372036854775807 < (sa ++ sb).size + sc.size) := by rw [ByteArray.size_append]; have := HS.out; omega
  unfold LET at hsa hsb hsc
  have HF : Hid ((sa ++ sb ++ sc).size ≤ 3) := by show _ ≤ _; rw [ByteArray.size_append, ByteArray.size_append]; have := HS.out; omega
  by_cases q : 0 ≤ z
  · obtain rfl := hn q
    have h0 : ¬ ((n : Int) < 0) := by omega
    clear hz hn h1 h2 hml hal hbl hcl
    go_enter Tryd.func10, Tryd.ntmps10
    go_wp2_with fail
    go_quiet (fail)
    go_wp2_with fail
    go_ret
    exact ⟨_, rfl, HF.out, nq, rfl⟩
  · have h0 : z < 0 := by omega
    have e0 := hz h0
    have wz : IntKind.i64.wrap (z + 1) = z + 1 := by rw [IntKind.wrap_i64]; omega
    have wy : IntKind.i64.wrap (-(z + 1)) = (n : Int) := by rw [IntKind.wrap_i64]; omega
    clear hz hn h1 h2 hml hal hbl hcl q e0
    go_enter Tryd.func10, Tryd.ntmps10
    go_wp2_with fail
    go_quiet (fail)
    go_wp2_with fail
    go_ret
    exact ⟨_, rfl, HF.out, nq, rfl⟩
end Go.Proofs.YtceclpabdfncoaaDoor.Re
