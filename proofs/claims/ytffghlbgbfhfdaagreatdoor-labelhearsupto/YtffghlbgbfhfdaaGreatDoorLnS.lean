/- IndexByte, Index, Cut at a colon, LastIndexByte. -/
import Derived.Test.YtffghlbgbfhfdaaGreatDoorLab
import Derived.Laws.Externs
namespace Go.Proofs.YtffghlbgbfhfdaaGreatDoor
open Go.RowKit
set_option maxRecDepth 100000 in
theorem ixL_any (s : ByteArray) (c : Int) (w : World) :
    Calls Tryz.prog 77 #[.string s, .int .u8 c] w fun e w' => e = .returned (.int .i64 (Lib.indexByte s.data.toList c.toNat.toUInt8)) ∧ w' = w := by
  go_enter Tryz.func77, Tryz.ntmps77
  go_wp2
  rw [run_callFunc_extern Tryz.func101 (by kernel_rfl) (by kernel_rfl) (by kernel_rfl) (e := Extern.BytealgIndexByte.indexByte) (by kernel_rfl), Lib.run_indexByteString]
  simp only [Result.andThen]
  rw [Oper.upon_value]
  go_wp2
  go_ret
  exact ⟨rfl, rfl⟩
/-- What stands ahead of the first byte c. -/
def pre (c : UInt8) : List UInt8 → List UInt8
  | [] => []
  | b :: l => if b == c then [] else b :: pre c l
theorem pre_len (c : UInt8) : ∀ l, (pre c l).length ≤ l.length
  | [] => Nat.le_refl _
  | b :: l => by
    unfold pre
    split
    · simp
    · have := pre_len c l; simp; omega
theorem pre_take (c : UInt8) : ∀ l, l.take (pre c l).length = pre c l
  | [] => rfl
  | b :: l => by
    unfold pre
    split
    · simp
    · simp [pre_take c l]
theorem ix_pre (c : UInt8) : ∀ l, Lib.indexByte l c = if (pre c l).length < l.length then (((pre c l).length : Nat) : Int) else -1
  | [] => rfl
  | b :: l => by
    have ih := ix_pre c l
    unfold Lib.indexByte pre
    by_cases h : (b == c) = true
    · simp [h]
    · have hl := pre_len c l
      simp only [h, if_false, List.length_cons, Bool.false_eq_true]
      by_cases h2 : (pre c l).length < l.length
      · rw [if_pos h2] at ih
        have e : (((((pre c l).length : Nat) : Int) == -1) = true) = False := by simp
        simp only [ih, e, if_false]
        rw [if_pos (by omega)]
        omega
      · rw [if_neg h2] at ih
        simp only [ih, beq_self_eq_true, if_true]
        rw [if_neg (by omega)]
/-- A list of bytes as a text. -/
def ofL (l : List UInt8) : ByteArray := ⟨l.toArray⟩
theorem ofL_data (s : ByteArray) : ofL s.data.toList = s := rfl
theorem ofL_size (l : List UInt8) : (ofL l).size = l.length := by simp [ofL, ByteArray.size]
theorem ext_take (s : ByteArray) (n : Nat) : s.extract 0 n = ofL (s.data.toList.take n) := by
  apply ByteArray.ext
  rw [ByteArray.data_extract]
  apply Array.ext'
  simp [ofL]
set_option maxHeartbeats 1000000 in
set_option maxRecDepth 100000 in
theorem index1_any (s : ByteArray) (w : World) :
    Calls Tryz.prog 63 #[.string s, .string ⟨#[58]⟩] w fun e w' => e = .returned (.int .i64 (Lib.indexByte s.data.toList 58)) ∧ w' = w := by
  by_cases h : s = ⟨#[58]⟩
  · subst h
    go_enter Tryz.func63, Tryz.ntmps63
    go_wp2
    go_ret
    exact ⟨rfl, rfl⟩
  · have hne : ([58] == s.toList) = false := by
      cases hq : ([58] == s.toList) with
      | false => rfl
      | true =>
        exfalso
        apply h
        have := beq_iff_eq.1 hq
        apply toList_inj.1
        rw [← this, ByteArray.toList_eq]
    go_enter Tryz.func63, Tryz.ntmps63
    go_wp2_with (go_at_call 77; refine (ixL_any _ _ _).mono ?_; rintro e w' ⟨rfl, rfl⟩)
    go_ret
    exact ⟨rfl, rfl⟩
/-- What Cut at a colon answers. -/
def cutV (l : List UInt8) : Value := if (pre 58 l).length < l.length then .tuple #[.string (ofL (pre 58 l)), .string (ofL (l.drop ((pre 58 l).length + 1))), .bool true] else .tuple #[.string (ofL l), .string ⟨#[]⟩, .bool false]
set_option maxRecDepth 100000 in
theorem ext_drop (s : ByteArray) (n : Nat) : s.extract n s.size = ofL (s.data.toList.drop n) := by
  apply ByteArray.ext
  rw [ByteArray.data_extract]
  apply Array.ext'
  have : s.size = s.data.size := rfl
  rw [this]
  simp only [ofL, Array.toList_extract, List.extract_eq_take_drop]
  exact List.take_of_length_le (by rw [List.length_drop, Array.length_toList]; exact Nat.le_refl _)
set_option maxHeartbeats 1000000 in
set_option maxRecDepth 100000 in
theorem cutL_any (s : ByteArray) (hs : s.size ≤ 1099511627776) (w : World) :
    Calls Tryz.prog 48 #[.string s, .string ⟨#[58]⟩] w fun e w' => e = .returned (cutV s.data.toList) ∧ Below w.heap.size w w' := by
  have hix := ix_pre 58 s.data.toList
  have hle := pre_len 58 s.data.toList
  have hsz : s.data.toList.length = s.size := Array.length_toList
  have hcv : Hid (cutV s.data.toList = if (pre 58 s.data.toList).length < s.size then .tuple #[.string (ofL (pre 58 s.data.toList)), .string (ofL (s.data.toList.drop ((pre 58 s.data.toList).length + 1))), .bool true] else .tuple #[.string (ofL s.data.toList), .string ⟨#[]⟩, .bool false]) := by show _ = _; rw [cutV, hsz]
  rw [hsz] at hix hle
  by_cases h : (pre 58 s.data.toList).length < s.size
  · have hcv2 := hcv.out
    rw [if_pos h] at hcv2
    obtain ⟨n, hn⟩ : ∃ n, n = (pre 58 s.data.toList).length := ⟨_, rfl⟩
    rw [if_pos h, ← hn] at hix
    rw [← hn] at hcv2
    have hx : s.extract 0 n = ofL (pre 58 s.data.toList) := by rw [ext_take, hn, pre_take]
    have hy : s.extract (n + 1) s.size = ofL (s.data.toList.drop (n + 1)) := ext_drop s (n + 1)
    have C : Hid (Calls Tryz.prog 63 #[.string s, .string ⟨#[58]⟩] w fun e w' => e = .returned (.int .i64 (n : Int)) ∧ w' = w) := by rw [← hix]; exact index1_any s w
    have h0 : (0 : Int) ≤ (n : Int) := by omega
    have h1 : (n : Int) ≤ (s.size : Int) := by omega
    have h2 : (n : Int) + 1 ≤ (s.size : Int) := by omega
    have h3 : (0 : Int) ≤ (n : Int) + 1 := by omega
    have h4 : IntKind.i64.wrap ((n : Int) + 1) = (n : Int) + 1 := by rw [IntKind.wrap_i64]; omega
    have h5 : ((n : Int) + 1).toNat = n + 1 := by omega
    have HX : Hid (s.extract 0 n = ofL (pre 58 s.data.toList)) := hx
    have HY : Hid (s.extract (n + 1) s.size = ofL (s.data.toList.drop (n + 1))) := hy
    have HC : Hid _ := hcv2
    clear hn hix hle h hx hy hsz hcv hcv2
    go_enter Tryz.func48, Tryz.ntmps48
    go_wp2_with (go_at_call 63; refine C.out.mono ?_; rintro e w' ⟨rfl, hw'⟩; have hw2 := hw'.symm; subst hw2)
    go_quiet (fail)
    go_wp2
    go_ret3
    exact ⟨by rw [HC.out, ← HX.out, ← HY.out]; rfl, Below.drewN' (Below.refl _ _) _⟩
  · have hcv2 := hcv.out
    rw [if_neg h] at hcv2
    rw [if_neg h] at hix
    have C : Hid (Calls Tryz.prog 63 #[.string s, .string ⟨#[58]⟩] w fun e w' => e = .returned (.int .i64 (-1)) ∧ w' = w) := by rw [← hix]; exact index1_any s w
    rw [hcv2]
    clear hix hle h hsz hcv hcv2
    go_enter Tryz.func48, Tryz.ntmps48
    go_wp2_with (go_at_call 63; refine C.out.mono ?_; rintro e w' ⟨rfl, hw'⟩; have hw2 := hw'.symm; subst hw2)
    go_ret3
    exact ⟨rfl, Below.refl _ _⟩
set_option maxHeartbeats 1000000 in
theorem cut_any (s : ByteArray) (hs : s.size ≤ 1099511627776) (w : World) :
    Calls Tryz.prog 30 #[.string s, .string ⟨#[58]⟩] w fun e w' => e = .returned (cutV s.data.toList) ∧ Below w.heap.size w w' := by
  obtain ⟨a, b, c, hc⟩ : ∃ a b c, cutV s.data.toList = .tuple #[.string a, .string b, .bool c] := by
    unfold cutV
    split <;> exact ⟨_, _, _, rfl⟩
  have C := cutL_any s hs w
  rw [hc] at C ⊢
  clear hc
  go_enter Tryz.func30, Tryz.ntmps30
  go_wp2_with fail
  refine C.mono ?_
  rintro e W1 ⟨rfl, b1⟩
  go_wp2
  go_ret3
  exact ⟨rfl, b1⟩
set_option maxHeartbeats 1000000 in
set_option maxRecDepth 100000 in
/-- The last colon. -/
theorem lastL_any (s : ByteArray) (a : Nat) (ha : a < s.size) (hs : s.size ≤ 1099511627776) (h1 : byt s a = 58) (h2 : ∀ j, a < j → j < s.size → byt s j ≠ 58) (w : World) :
    Calls Tryz.prog 26 #[.string s, .int .u8 58] w fun e w' => e = .returned (.int .i64 (a : Int)) ∧ w' = w := by
  have H1 : Hid (byt s a = 58) := h1
  have H2 : Hid (∀ j, a < j → j < s.size → byt s j ≠ 58) := h2
  obtain ⟨n, hn⟩ : ∃ n, n = s.size := ⟨_, rfl⟩
  have w1 : IntKind.i64.wrap ((s.size : Int) - 1) = (((s.size - 1 : Nat)) : Int) := by rw [IntKind.wrap_i64]; omega
  clear h1 h2
  go_enter Tryz.func26, Tryz.ntmps26
  go_wp2_with fail
  go_loopw [5] (fun iv wr => ∃ k : Nat, iv = .int .i64 (k : Int) ∧ a ≤ k ∧ k < s.size ∧ wr = w) (fun iv _ => (intOf iv).toNat)
  case atStart => exact ⟨s.size - 1, rfl, by omega, by omega, rfl⟩
  case round =>
    obtain ⟨k, rfl, hak, hks, rfl⟩ := hrel
    have hk0 : (0 : Int) ≤ (k : Int) := by omega
    have ix := idx9 wr s k hks
    by_cases hk : k = a
    · subst hk
      rw [H1.out] at ix
      go_wp2
      go_ret
      exact ⟨rfl, rfl⟩
    · have hb := H2.out k (by omega) hks
      have hb' : ((((byt s k : Nat) : Int) == 58)) = false := by simp; omega
      have w2 : IntKind.i64.wrap ((k : Int) - 1) = ((k - 1 : Nat) : Int) := by rw [IntKind.wrap_i64]; omega
      go_wp2
      exact ⟨⟨k - 1, by rfl, by omega, by omega, by trivial⟩, by simp only [intOf]; omega⟩
set_option maxRecDepth 100000 in
theorem last_any (s : ByteArray) (a : Nat) (ha : a < s.size) (hs : s.size ≤ 1099511627776) (h1 : byt s a = 58) (h2 : ∀ j, a < j → j < s.size → byt s j ≠ 58) (w : World) :
    Calls Tryz.prog 12 #[.string s, .int .u8 58] w fun e w' => e = .returned (.int .i64 (a : Int)) ∧ w' = w := by
  have C : Hid _ := lastL_any s a ha hs h1 h2 w
  clear h1 h2
  go_enter Tryz.func12, Tryz.ntmps12
  go_wp2_with fail
  refine Calls.mono C.out ?_
  rintro e W1 ⟨rfl, hw'⟩
  have hw2 := hw'.symm
  subst hw2
  go_wp2
  go_ret
  exact ⟨rfl, rfl⟩
end Go.Proofs.YtffghlbgbfhfdaaGreatDoor
