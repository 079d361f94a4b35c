/- Cut at a line feed, prefixes. -/
import Derived.Test.YtgimkeklnpppjaaDoorChecked
import Derived.WalkKit
import Derived.WalkSpells
import Derived.WalkLawsBesides
import Derived.Laws.Externs
import Derived.Lib.Bytealg
import Derived.Lib.OthersKept
import Derived.Laws.RangeAny
import Derived.BigRegion
import Derived.BigQuiet
namespace Go.Proofs.YtgimkeklnpppjaaDoor
open Go.RowKit
def byt (s : ByteArray) (i : Nat) : Nat := (s.get! i).toNat
theorem byt_lt (s : ByteArray) (i : Nat) : byt s i < 256 := (s.get! i).toNat_lt
theorem byt_at (s : ByteArray) (i : Nat) (h : i < s.size) : (s[i]'h).toNat = byt s i := by
  rw [byt, ← get_at s i h]; rfl
theorem idx9 (w : World) (s : ByteArray) (k : Nat) (h : k < s.size) : (Instr.index 9 (.string s) (.int .i64 (k : Int))).run Tryd.prog w = .ok (.int .u8 ((byt s k : Nat) : Int)) w := by
  rw [run_index_string _ _ _ _ _ Tryd.underlying9, dif_pos ⟨by omega, by omega⟩]
  simp [byt_at s k h]
theorem toList_inj {s t : ByteArray} : s.toList = t.toList ↔ s = t := by
  rw [ByteArray.toList_eq, ByteArray.toList_eq]
  obtain ⟨⟨x⟩⟩ := s
  obtain ⟨⟨y⟩⟩ := t
  simp
theorem beq_off {a b : List UInt8} (h : ¬ a = b) : (a == b) = false := by
  cases hq : (a == b) with
  | false => rfl
  | true => exact absurd (beq_iff_eq.1 hq) h
theorem Below.drewN' {B : Nat} {a w : World} (h : Below B a w) (n : Nat) : Below B a (w.drewN n) := ⟨h.os, h.tape, h.output, h.size, h.block⟩
set_option maxRecDepth 100000 in
theorem ixL_any (s : ByteArray) (c : Int) (w : World) :
    Calls Tryd.prog 52 #[.string s, .int .u8 c] w fun e w' => e = .returned (.int .i64 (Lib.indexByte s.data.toList c.toNat.toUInt8)) ∧ w' = w := by
  go_enter Tryd.func52, Tryd.ntmps52
  go_wp2
  rw [run_callFunc_extern Tryd.func63 (by kernel_rfl) (by kernel_rfl) (by kernel_rfl) (e := Extern.BytealgIndexByte.indexByte) (by kernel_rfl), Lib.run_indexByteString]
  simp only [Result.andThen]
  rw [Oper.upon_value]
  go_wp2
  go_ret
  exact ⟨rfl, rfl⟩
/-- What stands ahead of the first byte c. -/
def pre (c : UInt8) : List UInt8 → List UInt8
  | [] => []
  | b :: l => if b == c then [] else b :: pre c l
theorem pre_len (c : UInt8) : ∀ l, (pre c l).length ≤ l.length
  | [] => Nat.le_refl _
  | b :: l => by
    unfold pre
    split
    · simp
    · have := pre_len c l; simp; omega
theorem pre_take (c : UInt8) : ∀ l, l.take (pre c l).length = pre c l
  | [] => rfl
  | b :: l => by
    unfold pre
    split
    · simp
    · simp [pre_take c l]
theorem ix_pre (c : UInt8) : ∀ l, Lib.indexByte l c = if (pre c l).length < l.length then (((pre c l).length : Nat) : Int) else -1
  | [] => rfl
  | b :: l => by
    have ih := ix_pre c l
    unfold Lib.indexByte pre
    by_cases h : (b == c) = true
    · simp [h]
    · have hl := pre_len c l
      simp only [h, if_false, List.length_cons, Bool.false_eq_true]
      by_cases h2 : (pre c l).length < l.length
      · rw [if_pos h2] at ih
        have e : (((((pre c l).length : Nat) : Int) == -1) = true) = False := by simp
        simp only [ih, e, if_false]
        rw [if_pos (by omega)]
        omega
      · rw [if_neg h2] at ih
        simp only [ih, beq_self_eq_true, if_true]
        rw [if_neg (by omega)]
/-- A list of bytes as a text. -/
def ofL (l : List UInt8) : ByteArray := ⟨l.toArray⟩
theorem ofL_data (s : ByteArray) : ofL s.data.toList = s := rfl
theorem ofL_size (l : List UInt8) : (ofL l).size = l.length := by simp [ofL, ByteArray.size]
theorem ext_take (s : ByteArray) (n : Nat) : s.extract 0 n = ofL (s.data.toList.take n) := by
  apply ByteArray.ext
  rw [ByteArray.data_extract]
  apply Array.ext'
  simp [ofL]
set_option maxHeartbeats 1000000 in
set_option maxRecDepth 100000 in
theorem index1_any (s : ByteArray) (w : World) :
    Calls Tryd.prog 43 #[.string s, .string ⟨#[10]⟩] w fun e w' => e = .returned (.int .i64 (Lib.indexByte s.data.toList 10)) ∧ w' = w := by
  by_cases h : s = ⟨#[10]⟩
  · subst h
    go_enter Tryd.func43, Tryd.ntmps43
    go_wp2
    go_ret
    exact ⟨rfl, rfl⟩
  · have hne : ([10] == s.toList) = false := by
      cases hq : ([10] == s.toList) with
      | false => rfl
      | true =>
        exfalso
        apply h
        have := beq_iff_eq.1 hq
        apply toList_inj.1
        rw [← this, ByteArray.toList_eq]
    go_enter Tryd.func43, Tryd.ntmps43
    go_wp2_with (go_at_call 52; refine (ixL_any _ _ _).mono ?_; rintro e w' ⟨rfl, rfl⟩)
    go_ret
    exact ⟨rfl, rfl⟩
/-- What Cut at a line feed answers. -/
def cutV (l : List UInt8) : Value := if (pre 10 l).length < l.length then .tuple #[.string (ofL (pre 10 l)), .string (ofL (l.drop ((pre 10 l).length + 1))), .bool true] else .tuple #[.string (ofL l), .string ⟨#[]⟩, .bool false]
set_option maxRecDepth 100000 in
theorem ext_drop (s : ByteArray) (n : Nat) : s.extract n s.size = ofL (s.data.toList.drop n) := by
  apply ByteArray.ext
  rw [ByteArray.data_extract]
  apply Array.ext'
  have : s.size = s.data.size := rfl
  rw [this]
  simp only [ofL, Array.toList_extract, List.extract_eq_take_drop]
  exact List.take_of_length_le (by rw [List.length_drop, Array.length_toList]; exact Nat.le_refl _)
set_option maxHeartbeats 1000000 in
set_option maxRecDepth 100000 in
theorem cutL_any (s : ByteArray) (hs : s.size ≤ 1099511627776) (w : World) :
    Calls Tryd.prog 34 #[.string s, .string ⟨#[10]⟩] w fun e w' => e = .returned (cutV s.data.toList) ∧ Below w.heap.size w w' := by
  have hix := ix_pre 10 s.data.toList
  have hle := pre_len 10 s.data.toList
  have hsz : s.data.toList.length = s.size := Array.length_toList
  have hcv : Hid (cutV s.data.toList = if (pre 10 s.data.toList).length < s.size then .tuple #[.string (ofL (pre 10 s.data.toList)), .string (ofL (s.data.toList.drop ((pre 10 s.data.toList).length + 1))), .bool true] else .tuple #[.string (ofL s.data.toList), .string ⟨#[]⟩, .bool false]) := by show _ = _; rw [cutV, hsz]
  rw [hsz] at hix hle
  by_cases h : (pre 10 s.data.toList).length < s.size
  · have hcv2 := hcv.out
    rw [if_pos h] at hcv2
    obtain ⟨n, hn⟩ : ∃ n, n = (pre 10 s.data.toList).length := ⟨_, rfl⟩
    rw [if_pos h, ← hn] at hix
    rw [← hn] at hcv2
    have hx : s.extract 0 n = ofL (pre 10 s.data.toList) := by rw [ext_take, hn, pre_take]
    have hy : s.extract (n + 1) s.size = ofL (s.data.toList.drop (n + 1)) := ext_drop s (n + 1)
    have C : Hid (Calls Tryd.prog 43 #[.string s, .string ⟨#[10]⟩] w fun e w' => e = .returned (.int .i64 (n : Int)) ∧ w' = w) := by rw [← hix]; exact index1_any s w
    have h0 : (0 : Int) ≤ (n : Int) := by omega
    have h1 : (n : Int) ≤ (s.size : Int) := by omega
    have h2 : (n : Int) + 1 ≤ (s.size : Int) := by omega
    have h3 : (0 : Int) ≤ (n : Int) + 1 := by omega
    have h4 : IntKind.i64.wrap ((n : Int) + 1) = (n : Int) + 1 := by rw [IntKind.wrap_i64]; omega
    have h5 : ((n : Int) + 1).toNat = n + 1 := by omega
    have HX : Hid (s.extract 0 n = ofL (pre 10 s.data.toList)) := hx
    have HY : Hid (s.extract (n + 1) s.size = ofL (s.data.toList.drop (n + 1))) := hy
    have HC : Hid _ := hcv2
    clear hn hix hle h hx hy hsz hcv hcv2
    go_enter Tryd.func34, Tryd.ntmps34
    go_wp2_with (go_at_call 43; refine C.out.mono ?_; rintro e w' ⟨rfl, hw'⟩; have hw2 := hw'.symm; subst hw2)
    go_quiet (fail)
    go_wp2
    go_ret3
    exact ⟨by rw [HC.out, ← HX.out, ← HY.out]; rfl, Below.drewN' (Below.refl _ _) _⟩
  · have hcv2 := hcv.out
    rw [if_neg h] at hcv2
    rw [if_neg h] at hix
    have C : Hid (Calls Tryd.prog 43 #[.string s, .string ⟨#[10]⟩] w fun e w' => e = .returned (.int .i64 (-1)) ∧ w' = w) := by rw [← hix]; exact index1_any s w
    rw [hcv2]
    clear hix hle h hsz hcv hcv2
    go_enter Tryd.func34, Tryd.ntmps34
    go_wp2_with (go_at_call 43; refine C.out.mono ?_; rintro e w' ⟨rfl, hw'⟩; have hw2 := hw'.symm; subst hw2)
    go_ret3
    exact ⟨rfl, Below.refl _ _⟩
set_option maxHeartbeats 1000000 in
theorem cut_any (s : ByteArray) (hs : s.size ≤ 1099511627776) (w : World) :
    Calls Tryd.prog 23 #[.string s, .string ⟨#[10]⟩] w fun e w' => e = .returned (cutV s.data.toList) ∧ Below w.heap.size w w' := by
  obtain ⟨a, b, c, hc⟩ : ∃ a b c, cutV s.data.toList = .tuple #[.string a, .string b, .bool c] := by
    unfold cutV
    split <;> exact ⟨_, _, _, rfl⟩
  have C := cutL_any s hs w
  rw [hc] at C ⊢
  clear hc
  go_enter Tryd.func23, Tryd.ntmps23
  go_wp2_with fail
  refine C.mono ?_
  rintro e W1 ⟨rfl, b1⟩
  go_wp2
  go_ret3
  exact ⟨rfl, b1⟩
/-- Does it begin so? -/
def pf (s p : ByteArray) : Bool := decide (p.size ≤ s.size) && ((s.extract 0 p.size).toList == p.toList)
theorem pf_short {s p : ByteArray} (h : ¬ p.size ≤ s.size) : pf s p = false := by unfold pf; rw [decide_eq_false h]; rfl
theorem pf_long {s p : ByteArray} (h : p.size ≤ s.size) : pf s p = ((s.extract 0 p.size).toList == p.toList) := by unfold pf; rw [decide_eq_true h]; rfl
set_option maxHeartbeats 1000000 in
set_option maxRecDepth 100000 in
theorem starts_any (s p : ByteArray) (w : World) : Calls Tryd.prog 13 #[.string s, .string p] w fun e w' => e = .returned (.bool (pf s p)) ∧ w' = w := by
  by_cases h : p.size ≤ s.size
  · rw [pf_long h]
    have h1 : (p.size : Int) ≤ (s.size : Int) := by omega
    have h2 : (0 : Int) ≤ (p.size : Int) := by omega
    go_enter Tryd.func13, Tryd.ntmps13
    go_wp2
    go_ret
    exact ⟨by simp, rfl⟩
  · rw [pf_short h]
    have h1 : ¬ ((p.size : Int) ≤ (s.size : Int)) := by omega
    go_enter Tryd.func13, Tryd.ntmps13
    go_wp2
    go_ret
    exact ⟨rfl, rfl⟩
set_option maxHeartbeats 1000000 in
set_option maxRecDepth 100000 in
theorem hasp_any (s p : ByteArray) (w : World) : Calls Tryd.prog 44 #[.string s, .string p] w fun e w' => e = .returned (.bool (pf s p)) ∧ w' = w := by
  by_cases h : p.size ≤ s.size
  · rw [pf_long h]
    have h1 : (p.size : Int) ≤ (s.size : Int) := by omega
    have h2 : (0 : Int) ≤ (p.size : Int) := by omega
    go_enter Tryd.func44, Tryd.ntmps44
    go_wp2
    go_ret
    exact ⟨by simp, rfl⟩
  · rw [pf_short h]
    have h1 : ¬ ((p.size : Int) ≤ (s.size : Int)) := by omega
    go_enter Tryd.func44, Tryd.ntmps44
    go_wp2
    go_ret
    exact ⟨rfl, rfl⟩
theorem pf_le {s p : ByteArray} (h : pf s p = true) : p.size ≤ s.size := by
  unfold pf at h
  simp only [Bool.and_eq_true, decide_eq_true_eq] at h
  exact h.1
set_option maxHeartbeats 1000000 in
set_option maxRecDepth 100000 in
theorem cutpL_any (s p : ByteArray) (w : World) : Calls Tryd.prog 35 #[.string s, .string p] w fun e w' => e = .returned (.tuple #[.string (if pf s p then s.extract p.size s.size else s), .bool (pf s p)]) ∧ w' = w := by
  have C : Hid _ := hasp_any s p w
  cases hp : pf s p with
  | true =>
    have hl := pf_le hp
    have h1 : (p.size : Int) ≤ (s.size : Int) := by omega
    have h2 : (0 : Int) ≤ (p.size : Int) := by omega
    rw [hp] at C
    go_enter Tryd.func35, Tryd.ntmps35
    go_wp2_with fail
    refine Calls.mono C.out ?_
    rintro e W1 ⟨rfl, hw'⟩
    have hw2 := hw'.symm
    subst hw2
    go_wp2
    go_ret2
    exact ⟨by simp, rfl⟩
  | false =>
    rw [hp] at C
    go_enter Tryd.func35, Tryd.ntmps35
    go_wp2_with fail
    refine Calls.mono C.out ?_
    rintro e W1 ⟨rfl, hw'⟩
    have hw2 := hw'.symm
    subst hw2
    go_wp2
    go_ret2
    exact ⟨by simp, rfl⟩
set_option maxHeartbeats 1000000 in
set_option maxRecDepth 100000 in
theorem cutp_any (s p : ByteArray) (w : World) : Calls Tryd.prog 24 #[.string s, .string p] w fun e w' => e = .returned (.tuple #[.string (if pf s p then s.extract p.size s.size else s), .bool (pf s p)]) ∧ w' = w := by
  have C : Hid _ := cutpL_any s p w
  obtain ⟨v, hv⟩ : ∃ v, v = (if pf s p then s.extract p.size s.size else s) := ⟨_, rfl⟩
  rw [← hv] at C ⊢
  clear hv
  go_enter Tryd.func24, Tryd.ntmps24
  go_wp2_with fail
  refine Calls.mono C.out ?_
  rintro e W1 ⟨rfl, hw'⟩
  have hw2 := hw'.symm
  subst hw2
  go_wp2
  go_ret2
  exact ⟨rfl, rfl⟩
end Go.Proofs.YtgimkeklnpppjaaDoor
