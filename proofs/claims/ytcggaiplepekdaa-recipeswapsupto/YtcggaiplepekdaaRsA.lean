/- Texts: beginnings, pieces, comparison. -/
import Derived.Test.YtcggaiplepekdaaRsM
import Derived.Test.YtcggaiplepekdaaRcU
import Derived.WalkSpells
import Derived.WalkLawsBesides
import Derived.Laws.Externs
import Derived.Lib.Bytealg
namespace Go.Proofs.Ytcggaiplepekdaa
open Go.RowKit
theorem bl_ext (s : S) (a b : Nat) : bl (s.extract a b) = ((bl s).take b).drop a := by
  unfold bl
  rw [ByteArray.data_extract, Array.toList_extract, List.extract_eq_take_drop, List.drop_take]
theorem bl_tl (s : S) : ByteArray.toList s = bl s := ByteArray.toList_eq s
theorem pre_iff {a b : Bts} : a <+: b ↔ b.take a.length = a := by
  rw [List.prefix_iff_eq_take]; exact eq_comm
theorem isp_eq (a b : Bts) : a.isPrefixOf b = (b.take a.length == a) := by
  rw [Bool.eq_iff_iff, List.isPrefixOf_iff_prefix, pre_iff, beq_iff_eq]
theorem isp_short {a b : Bts} (h : b.length < a.length) : a.isPrefixOf b = false := by
  rw [Bool.eq_false_iff]
  intro q
  have := (List.isPrefixOf_iff_prefix.1 q).length_le
  omega
set_option maxHeartbeats 1000000 in
set_option maxRecDepth 100000 in
theorem haspL_any (s p : S) (w : World) : Calls Try.prog 43 #[.string s, .string p] w fun e w' => e = .returned (.bool ((bl p).isPrefixOf (bl s))) ∧ w' = w := by
  by_cases h : p.size ≤ s.size
  · have he : (bl p).isPrefixOf (bl s) = (ByteArray.toList (s.extract 0 p.size) == ByteArray.toList p) := by
      rw [bl_tl, bl_tl, bl_ext, isp_eq, bl_len]; rfl
    rw [he]
    have h1 : (p.size : Int) ≤ (s.size : Int) := by omega
    have h2 : (0 : Int) ≤ (p.size : Int) := by omega
    clear he
    go_enter Try.func43, Try.ntmps43
    go_wp2
    go_ret
    exact ⟨by simp, rfl⟩
  · rw [isp_short (by rw [bl_len, bl_len]; omega)]
    have h1 : ¬ ((p.size : Int) ≤ (s.size : Int)) := by omega
    go_enter Try.func43, Try.ntmps43
    go_wp2
    go_ret
    exact ⟨rfl, rfl⟩
set_option maxRecDepth 100000 in
theorem hasp_any (s p : S) (w : World) : Calls Try.prog 31 #[.string s, .string p] w fun e w' => e = .returned (.bool ((bl p).isPrefixOf (bl s))) ∧ w' = w := by
  have C : Hid _ := haspL_any s p w
  revert C
  generalize (bl p).isPrefixOf (bl s) = b
  intro C
  go_enter Try.func31, Try.ntmps31
  go_wp2_with fail
  refine Calls.mono C.out ?_
  rintro e w' ⟨rfl, rfl⟩
  go_wp2
  go_ret
  exact ⟨rfl, rfl⟩
/-- Compare tells the order of texts. -/
theorem cmpB_lt : ∀ a b : List UInt8, Lib.compareBytes a b < 0 ↔ tn a < tn b
  | [], [] => by simp [Lib.compareBytes, tn]
  | [], _ :: _ => by simp [Lib.compareBytes, tn]
  | _ :: _, [] => by simp [Lib.compareBytes, tn]
  | x :: a, y :: b => by
    unfold Lib.compareBytes
    rw [tn_cons, tn_cons, List.cons_lt_cons_iff]
    have ih := cmpB_lt a b
    by_cases h1 : x < y
    · rw [if_pos h1]
      exact ⟨fun _ => .inl (UInt8.lt_iff_toNat_lt.1 h1), fun _ => by decide⟩
    · rw [if_neg h1]
      have h1' : ¬ x.toNat < y.toNat := fun h => h1 (UInt8.lt_iff_toNat_lt.2 h)
      by_cases h2 : y < x
      · rw [if_pos h2]
        have h2' := UInt8.lt_iff_toNat_lt.1 h2
        refine ⟨fun h => absurd h (by decide), fun h => ?_⟩
        rcases h with h | ⟨h, _⟩ <;> omega
      · rw [if_neg h2]
        have h2' : ¬ y.toNat < x.toNat := fun h => h2 (UInt8.lt_iff_toNat_lt.2 h)
        rw [ih]
        refine ⟨fun h => .inr ⟨by omega, h⟩, fun h => ?_⟩
        rcases h with h | ⟨_, h⟩
        · exact absurd h h1'
        · exact h
set_option maxHeartbeats 1000000 in
set_option maxRecDepth 100000 in
theorem cmpL_any (s t : S) (w : World) :
    Calls Try.prog 42 #[.string s, .string t] w fun e w' => e = .returned (.int .i64 (Lib.compareBytes s.data.toList t.data.toList)) ∧ w' = w := by
  go_enter Try.func42, Try.ntmps42
  go_wp2
  rw [run_callFunc_extern Try.func56 (by kernel_rfl) (by kernel_rfl) (by kernel_rfl) (e := Extern.BytealgCompare.compare) (by kernel_rfl), Lib.run_compareString]
  simp only [Result.andThen]
  rw [Oper.upon_value]
  go_wp2
  go_ret
  exact ⟨rfl, rfl⟩
theorem cmp_any (s t : S) (w : World) :
    Calls Try.prog 30 #[.string s, .string t] w fun e w' => e = .returned (.int .i64 (Lib.compareBytes s.data.toList t.data.toList)) ∧ w' = w := by
  go_enter Try.func30, Try.ntmps30
  go_wp2_with (go_at_call 42; refine (cmpL_any _ _ _).mono ?_; rintro e w' ⟨rfl, rfl⟩)
  go_ret
  exact ⟨rfl, rfl⟩
set_option maxHeartbeats 1000000 in
set_option maxRecDepth 100000 in
theorem piece_any (s p : S) (k : Nat) (hs : s.size ≤ 4000000000) (hp : p.size ≤ 4000000000) (hk : k ≤ s.size) (w : World) : Calls Try.prog 39 #[.string s, .int .i64 (k : Int), .string p] w fun e w' => e = .returned (.bool ((bl p).isPrefixOf ((bl s).drop k))) ∧ w' = w := by
  have w1 : IntKind.i64.wrap ((k : Int) + (p.size : Int)) = (k : Int) + (p.size : Int) := by rw [IntKind.wrap_i64]; omega
  by_cases h : k + p.size ≤ s.size
  · have he : (bl p).isPrefixOf ((bl s).drop k) = (ByteArray.toList (s.extract k (k + p.size)) == ByteArray.toList p) := by
      rw [bl_tl, bl_tl, bl_ext, isp_eq, bl_len, List.drop_take, show k + p.size - k = p.size by omega]
    rw [he]
    have h1 : (k : Int) + (p.size : Int) ≤ (s.size : Int) := by omega
    have h2 : (0 : Int) ≤ (k : Int) := by omega
    have h3 : (k : Int) ≤ (k : Int) + (p.size : Int) := by omega
    have h4 : ((k : Int) + (p.size : Int)).toNat = k + p.size := by omega
    clear he hs hp hk
    go_enter Try.func39, Try.ntmps39
    go_wp2
    go_ret
    exact ⟨by simp, rfl⟩
  · rw [isp_short (by rw [List.length_drop, bl_len, bl_len]; omega)]
    have h1 : ¬ ((k : Int) + (p.size : Int) ≤ (s.size : Int)) := by omega
    clear hs hp hk
    go_enter Try.func39, Try.ntmps39
    go_wp2
    go_ret
    exact ⟨rfl, rfl⟩
theorem inf_iff {a s : Bts} : a <:+: s ↔ ∃ k, k + a.length ≤ s.length ∧ a <+: s.drop k := by
  constructor
  · rintro ⟨u, t, rfl⟩
    exact ⟨u.length, by simp, by rw [List.append_assoc, List.drop_left]; exact List.prefix_append _ _⟩
  · rintro ⟨k, -, h⟩
    exact h.isInfix.trans (List.drop_suffix _ _).isInfix
/-- A call that tells whether something holds, and changes nothing. -/
def Tells (p : Prop) (w : World) (e : Ending) (w' : World) : Prop := ∃ b : Bool, e = .returned (.bool b) ∧ (b = true ↔ p) ∧ w' = w
set_option maxHeartbeats 1000000 in
set_option maxRecDepth 100000 in
theorem within_any (s p : S) (hs : s.size ≤ 4000000000) (hp : p.size ≤ 4000000000) (w : World) : Calls Try.prog 26 #[.string s, .string p] w (Tells (bl p <:+: bl s) w) := by
  have CP : Hid (∀ k : Nat, k ≤ s.size → Calls Try.prog 39 #[.string s, .int .i64 (k : Int), .string p] w fun e w' => e = .returned (.bool ((bl p).isPrefixOf ((bl s).drop k))) ∧ w' = w) := fun k hk => piece_any s p k hs hp hk w
  have HS : Hid (s.size ≤ 4000000000 ∧ p.size ≤ 4000000000) := ⟨hs, hp⟩
  clear hs hp
  go_enter Try.func26, Try.ntmps26
  go_wp2_with fail
  go_loopw [5, 6] (fun iv _ wr => ∃ i : Nat, iv = .int .i64 (i : Int) ∧ wr = w ∧ Hid (i ≤ s.size + 1 ∧ ∀ k, k < i → ¬ bl p <+: (bl s).drop k)) (fun iv _ _ => s.size + 2 - (intOf iv).toNat)
  case atStart => exact ⟨0, rfl, rfl, Nat.zero_le _, fun k hk => by omega⟩
  case round =>
    obtain ⟨i, rfl, rfl, HI⟩ := hrel
    have w1 : IntKind.i64.wrap ((i : Int) + (p.size : Int)) = (i : Int) + (p.size : Int) := by rw [IntKind.wrap_i64]; have := HS.out; have := HI.out.1; omega
    by_cases hi : i + p.size ≤ s.size
    · have hi1 : (i : Int) + (p.size : Int) ≤ (s.size : Int) := by omega
      have C1 : Hid _ := CP.out i (by omega)
      have w2 : IntKind.i64.wrap ((i : Int) + 1) = (i : Int) + 1 := by rw [IntKind.wrap_i64]; have := HS.out; omega
      have HL : Hid (i ≤ s.size) := by show i ≤ s.size; omega
      clear hi
      cases hb : (bl p).isPrefixOf ((bl s).drop i) with
      | true =>
        rw [hb] at C1
        have HR : Hid (bl p <:+: bl s) := (List.isPrefixOf_iff_prefix.1 hb).isInfix.trans (List.drop_suffix _ _).isInfix
        clear hb
        go_wp2_with fail
        refine Calls.mono C1.out ?_
        rintro e w' ⟨rfl, rfl⟩
        go_wp2_with fail
        go_ret
        exact ⟨true, rfl, ⟨fun _ => HR.out, fun _ => rfl⟩, rfl⟩
      | false =>
        rw [hb] at C1
        have HR : Hid (¬ bl p <+: (bl s).drop i) := fun q => by rw [List.isPrefixOf_iff_prefix.2 q] at hb; cases hb
        clear hb
        go_wp2_with fail
        refine Calls.mono C1.out ?_
        rintro e w' ⟨rfl, rfl⟩
        go_wp2_with fail
        go_roundw
        case rel => exact ⟨i + 1, by go_num, trivial, by have := HL.out; show i + 1 ≤ _; omega, fun k hk => by
          by_cases q : k = i
          · rw [q]; exact HR.out
          · exact HI.out.2 k (by omega)⟩
        case measure => have := HL.out; simp [intOf]; omega
    · have hi1 : ¬ ((i : Int) + (p.size : Int) ≤ (s.size : Int)) := by omega
      have HR : Hid (¬ bl p <:+: bl s) := fun q => by
        obtain ⟨k, h1, h2⟩ := inf_iff.1 q
        rw [bl_len, bl_len] at h1
        exact HI.out.2 k (by omega) h2
      clear hi
      go_wp2_with fail
      go_ret
      exact ⟨false, rfl, ⟨fun q => (by cases q), fun q => absurd q HR.out⟩, rfl⟩
end Go.Proofs.Ytcggaiplepekdaa
