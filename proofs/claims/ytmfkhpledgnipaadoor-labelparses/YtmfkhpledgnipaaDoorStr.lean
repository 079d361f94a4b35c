/- IndexByte, Cut, isStep, labelEnd. -/
import Derived.Test.YtmfkhpledgnipaaDoorLab
import Derived.Laws.Externs
namespace Go.Proofs.YtmfkhpledgnipaaDoor
open Go.RowKit
theorem ixL_any (s : ByteArray) (c : Int) (w : World) :
    Calls Tryd.prog 48 #[.string s, .int .u8 c] w fun e w' => e = .returned (.int .i64 (Lib.indexByte s.data.toList c.toNat.toUInt8)) ∧ w' = w := by
  go_enter Tryd.func48, Tryd.ntmps48
  go_wp2
  rw [run_callFunc_extern Tryd.func52 (by kernel_rfl) (by kernel_rfl) (by kernel_rfl) (e := Extern.BytealgIndexByte.indexByte) (by kernel_rfl), Lib.run_indexByteString]
  simp only [Result.andThen]
  rw [Oper.upon_value]
  go_wp2
  go_ret
  exact ⟨rfl, rfl⟩
theorem ixb_any (s : ByteArray) (c : Int) (w : World) :
    Calls Tryd.prog 40 #[.string s, .int .u8 c] w fun e w' => e = .returned (.int .i64 (Lib.indexByte s.data.toList c.toNat.toUInt8)) ∧ w' = w := by
  go_enter Tryd.func40, Tryd.ntmps40
  go_wp2_with (go_at_call 48; refine (ixL_any _ _ _).mono ?_; rintro e w' ⟨rfl, rfl⟩)
  go_ret
  exact ⟨rfl, rfl⟩
/-- What stands ahead of the first byte c. -/
def pre (c : UInt8) : List UInt8 → List UInt8
  | [] => []
  | b :: l => if b == c then [] else b :: pre c l
theorem pre_len (c : UInt8) : ∀ l, (pre c l).length ≤ l.length
  | [] => Nat.le_refl _
  | b :: l => by
    unfold pre
    split
    · simp
    · have := pre_len c l; simp; omega
theorem pre_take (c : UInt8) : ∀ l, l.take (pre c l).length = pre c l
  | [] => rfl
  | b :: l => by
    unfold pre
    split
    · simp
    · simp [pre_take c l]
theorem ix_pre (c : UInt8) : ∀ l, Lib.indexByte l c = if (pre c l).length < l.length then (((pre c l).length : Nat) : Int) else -1
  | [] => rfl
  | b :: l => by
    have ih := ix_pre c l
    unfold Lib.indexByte pre
    by_cases h : (b == c) = true
    · simp [h]
    · have hl := pre_len c l
      simp only [h, if_false, List.length_cons, Bool.false_eq_true]
      by_cases h2 : (pre c l).length < l.length
      · rw [if_pos h2] at ih
        have e : (((((pre c l).length : Nat) : Int) == -1) = true) = False := by simp
        simp only [ih, e, if_false]
        rw [if_pos (by omega)]
        omega
      · rw [if_neg h2] at ih
        simp only [ih, beq_self_eq_true, if_true]
        rw [if_neg (by omega)]
/-- A list of bytes as a text. -/
def ofL (l : List UInt8) : ByteArray := ⟨l.toArray⟩
theorem ofL_data (s : ByteArray) : ofL s.data.toList = s := rfl
theorem ofL_size (l : List UInt8) : (ofL l).size = l.length := by simp [ofL, ByteArray.size]
theorem ext_take (s : ByteArray) (n : Nat) : s.extract 0 n = ofL (s.data.toList.take n) := by
  apply ByteArray.ext
  rw [ByteArray.data_extract]
  apply Array.ext'
  simp [ofL]
set_option maxHeartbeats 1000000 in
set_option maxRecDepth 100000 in
theorem index1_any (s : ByteArray) (w : World) :
    Calls Tryd.prog 53 #[.string s, .string ⟨#[47]⟩] w fun e w' => e = .returned (.int .i64 (Lib.indexByte s.data.toList 47)) ∧ w' = w := by
  by_cases h : s = ⟨#[47]⟩
  · subst h
    go_enter Tryd.func53, Tryd.ntmps53
    go_wp2
    go_ret
    exact ⟨rfl, rfl⟩
  · have hne : ([47] == s.toList) = false := by
      cases hq : ([47] == s.toList) with
      | false => rfl
      | true =>
        exfalso
        apply h
        have := beq_iff_eq.1 hq
        apply toList_inj.1
        rw [← this, ByteArray.toList_eq]
    go_enter Tryd.func53, Tryd.ntmps53
    go_wp2_with (go_at_call 48; refine (ixL_any _ _ _).mono ?_; rintro e w' ⟨rfl, rfl⟩)
    go_ret
    exact ⟨rfl, rfl⟩
set_option maxHeartbeats 1000000 in
set_option maxRecDepth 100000 in
theorem cutL_any (s : ByteArray) (hs : s.size ≤ 1099511627776) (w : World) :
    Calls Tryd.prog 49 #[.string s, .string ⟨#[47]⟩] w fun e w' => (∃ q b, e = .returned (.tuple #[.string (ofL (pre 47 s.data.toList)), .string q, .bool b])) ∧ Below w.heap.size w w' := by
  have hix := ix_pre 47 s.data.toList
  have hle := pre_len 47 s.data.toList
  have hsz : s.data.toList.length = s.size := Array.length_toList
  rw [hsz] at hix hle
  by_cases h : (pre 47 s.data.toList).length < s.size
  · obtain ⟨n, hn⟩ : ∃ n, n = (pre 47 s.data.toList).length := ⟨_, rfl⟩
    rw [if_pos h, ← hn] at hix
    have hx : s.extract 0 n = ofL (pre 47 s.data.toList) := by rw [ext_take, hn, pre_take]
    have C : Hid (Calls Tryd.prog 53 #[.string s, .string ⟨#[47]⟩] w fun e w' => e = .returned (.int .i64 (n : Int)) ∧ w' = w) := by rw [← hix]; exact index1_any s w
    have h0 : (0 : Int) ≤ (n : Int) := by omega
    have h1 : (n : Int) ≤ (s.size : Int) := by omega
    have h2 : (n : Int) + 1 ≤ (s.size : Int) := by omega
    have h3 : (0 : Int) ≤ (n : Int) + 1 := by omega
    have h4 : IntKind.i64.wrap ((n : Int) + 1) = (n : Int) + 1 := by rw [IntKind.wrap_i64]; omega
    have HX : Hid (s.extract 0 n = ofL (pre 47 s.data.toList)) := hx
    clear hn hix hle h hx hsz
    go_enter Tryd.func49, Tryd.ntmps49
    go_wp2_with (go_at_call 53; refine C.out.mono ?_; rintro e w' ⟨rfl, hw'⟩; have hw2 := hw'.symm; subst hw2)
    go_quiet (fail)
    go_wp2
    go_ret3
    exact ⟨⟨_, _, by rw [← HX.out]; rfl⟩, Below.drewN' (Below.refl _ _) _⟩
  · have hx : pre 47 s.data.toList = s.data.toList := by
      rw [← pre_take]
      exact List.take_of_length_le (by rw [hsz]; omega)
    rw [if_neg h] at hix
    have C : Hid (Calls Tryd.prog 53 #[.string s, .string ⟨#[47]⟩] w fun e w' => e = .returned (.int .i64 (-1)) ∧ w' = w) := by rw [← hix]; exact index1_any s w
    rw [hx]
    clear hx hix hle h hsz
    go_enter Tryd.func49, Tryd.ntmps49
    go_wp2_with (go_at_call 53; refine C.out.mono ?_; rintro e w' ⟨rfl, hw'⟩; have hw2 := hw'.symm; subst hw2)
    go_ret3
    exact ⟨⟨_, _, rfl⟩, Below.refl _ _⟩
set_option maxHeartbeats 1000000 in
theorem cut_any (s : ByteArray) (hs : s.size ≤ 1099511627776) (w : World) :
    Calls Tryd.prog 41 #[.string s, .string ⟨#[47]⟩] w fun e w' => (∃ q b, e = .returned (.tuple #[.string (ofL (pre 47 s.data.toList)), .string q, .bool b])) ∧ Below w.heap.size w w' := by
  go_enter Tryd.func41, Tryd.ntmps41
  go_wp2_with fail
  refine (cutL_any s hs w).mono ?_
  rintro e W1 ⟨⟨q, b, rfl⟩, b1⟩
  go_wp2
  go_ret3
  exact ⟨⟨_, _, rfl⟩, b1⟩
/-- May a text without a slash be a step? -/
def okS (l : List UInt8) : Bool := decide (¬ l = [] ∧ ¬ l = [46] ∧ ¬ l = [46, 46] ∧ l.length ≤ 255 ∧ ¬ (pre 0 l).length < l.length)
theorem beq_off {a b : List UInt8} (h : ¬ a = b) : (a == b) = false := by
  cases hq : (a == b) with
  | false => rfl
  | true => exact absurd (beq_iff_eq.1 hq) h
set_option maxHeartbeats 1000000 in
theorem isStep_any (s : ByteArray) (hs : s.size ≤ 1099511627776) (w : World) :
    Calls Tryd.prog 42 #[.string s] w fun e w' => e = .returned (.bool (okS s.data.toList)) ∧ w' = w := by
  have hsz : s.data.toList.length = s.size := Array.length_toList
  have hl : s.toList = s.data.toList := ByteArray.toList_eq s
  by_cases h1 : s.data.toList = []
  · have he : (s.toList == []) = true := by rw [hl, h1]; rfl
    have hk : Hid (okS s.data.toList = false) := by show _ = _; unfold okS; rw [h1]; decide
    clear h1 hl hsz
    go_enter Tryd.func42, Tryd.ntmps42
    go_wp2
    go_ret
    exact ⟨by rw [hk.out]; rfl, rfl⟩
  have e1 : (s.toList == []) = false := by rw [hl]; exact beq_off h1
  by_cases h2 : s.data.toList = [46]
  · have he : (s.toList == [46]) = true := by rw [hl, h2]; rfl
    have hk : Hid (okS s.data.toList = false) := by show _ = _; unfold okS; rw [h2]; decide
    clear h1 h2 hl hsz
    go_enter Tryd.func42, Tryd.ntmps42
    go_wp2
    go_ret
    exact ⟨by rw [hk.out]; rfl, rfl⟩
  have e2 : (s.toList == [46]) = false := by rw [hl]; exact beq_off h2
  by_cases h3 : s.data.toList = [46, 46]
  · have he : (s.toList == [46, 46]) = true := by rw [hl, h3]; rfl
    have hk : Hid (okS s.data.toList = false) := by show _ = _; unfold okS; rw [h3]; decide
    clear h1 h2 h3 hl hsz
    go_enter Tryd.func42, Tryd.ntmps42
    go_wp2
    go_ret
    exact ⟨by rw [hk.out]; rfl, rfl⟩
  have e3 : (s.toList == [46, 46]) = false := by rw [hl]; exact beq_off h3
  by_cases h4 : s.size ≤ 255
  · have h4' : (s.size : Int) ≤ 255 := by omega
    have hix := ix_pre 0 s.data.toList
    rw [hsz] at hix
    by_cases h5 : (pre 0 s.data.toList).length < s.size
    · rw [if_pos h5] at hix
      have hk : Hid (okS s.data.toList = false) := by
        show _ = _
        unfold okS
        apply decide_eq_false
        rintro ⟨_, _, _, _, h⟩
        rw [hsz] at h
        exact h h5
      obtain ⟨n, hn⟩ : ∃ n, n = (pre 0 s.data.toList).length := ⟨_, rfl⟩
      rw [← hn] at hix
      have C : Hid (∀ W, Calls Tryd.prog 40 #[.string s, .int .u8 0] W fun e w' => e = .returned (.int .i64 (n : Int)) ∧ w' = W) := fun W => by rw [← hix]; exact ixb_any s 0 W
      have hn0 : ¬ ((n : Int) < 0) := by omega
      clear hix hn h1 h2 h3 hl hsz h5
      go_enter Tryd.func42, Tryd.ntmps42
      go_wp2_with (go_at_call 40; refine (C.out _).mono ?_; rintro e w' ⟨rfl, hw'⟩; have hw2 := hw'.symm; subst hw2)
      go_ret
      exact ⟨by rw [hk.out]; rfl, rfl⟩
    · rw [if_neg h5] at hix
      have hk : Hid (okS s.data.toList = true) := by
        show _ = _
        unfold okS
        apply decide_eq_true
        rw [hsz]
        exact ⟨h1, h2, h3, h4, h5⟩
      have C : Hid (∀ W, Calls Tryd.prog 40 #[.string s, .int .u8 0] W fun e w' => e = .returned (.int .i64 (-1)) ∧ w' = W) := fun W => by rw [← hix]; exact ixb_any s 0 W
      clear hix h1 h2 h3 hl hsz h5
      go_enter Tryd.func42, Tryd.ntmps42
      go_wp2_with (go_at_call 40; refine (C.out _).mono ?_; rintro e w' ⟨rfl, hw'⟩; have hw2 := hw'.symm; subst hw2)
      go_ret
      exact ⟨by rw [hk.out]; rfl, rfl⟩
  · have h4' : ¬ ((s.size : Int) ≤ 255) := by omega
    have hk : Hid (okS s.data.toList = false) := by
      show _ = _
      unfold okS
      apply decide_eq_false
      rintro ⟨_, _, _, h, _⟩
      rw [hsz] at h
      omega
    clear h1 h2 h3 hl hsz
    go_enter Tryd.func42, Tryd.ntmps42
    go_wp2
    go_ret
    exact ⟨by rw [hk.out]; rfl, rfl⟩
end Go.Proofs.YtmfkhpledgnipaaDoor
