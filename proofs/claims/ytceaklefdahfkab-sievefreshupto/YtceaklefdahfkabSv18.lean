/- The sieve: texts compared. -/
import Derived.Test.YtceaklefdahfkabSv5
import Derived.Lib.Bytealg
import Derived.BigQuiet
namespace Go.Proofs.Ytceaklefdahfkab
open Go.RowKit
/-- Compare tells the order of texts. -/
theorem cmpB_lt : ∀ a b : List UInt8, Lib.compareBytes a b < 0 ↔ a.map (·.toNat) < b.map (·.toNat)
  | [], [] => by simp [Lib.compareBytes]
  | [], _ :: _ => by simp [Lib.compareBytes]
  | _ :: _, [] => by simp [Lib.compareBytes]
  | x :: a, y :: b => by
    unfold Lib.compareBytes
    rw [List.map_cons, List.map_cons, List.cons_lt_cons_iff]
    have ih := cmpB_lt a b
    by_cases h1 : x < y
    · rw [if_pos h1]
      exact ⟨fun _ => .inl (UInt8.lt_iff_toNat_lt.1 h1), fun _ => by decide⟩
    · rw [if_neg h1]
      have h1' : ¬ x.toNat < y.toNat := fun h => h1 (UInt8.lt_iff_toNat_lt.2 h)
      by_cases h2 : y < x
      · rw [if_pos h2]
        have h2' := UInt8.lt_iff_toNat_lt.1 h2
        refine ⟨fun h => absurd h (by decide), fun h => ?_⟩
        rcases h with h | ⟨h, _⟩ <;> omega
      · rw [if_neg h2]
        have h2' : ¬ y.toNat < x.toNat := fun h => h2 (UInt8.lt_iff_toNat_lt.2 h)
        rw [ih]
        refine ⟨fun h => .inr ⟨by omega, h⟩, fun h => ?_⟩
        rcases h with h | ⟨_, h⟩
        · exact absurd h h1'
        · exact h
/-- A text of a list. -/
def txt (l : List ByteArray) (i : Nat) : ByteArray := l.getD i ⟨#[]⟩
theorem txt_get {l : List ByteArray} {i : Nat} (h : i < l.length) : l[i]? = some (txt l i) := by simp [txt, List.getD, h]
/-- How two of them are in order. -/
def cfV (l : List ByteArray) (i j : Nat) : Int := Lib.compareBytes (txt l i).data.toList (txt l j).data.toList
theorem cfV_lt (l : List ByteArray) (i j : Nat) : cfV l i j < 0 ↔ tl (txt l i) < tl (txt l j) := cmpB_lt _ _
set_option maxHeartbeats 1000000 in
set_option maxRecDepth 100000 in
theorem cmpS77 (s t : ByteArray) (w : World) :
    Calls Try.prog 89 #[.string s, .string t] w fun e w' => e = .returned (.int .i64 (Lib.compareBytes s.data.toList t.data.toList)) ∧ w' = w := by
  go_enter Try.func89, Try.ntmps89
  go_wp2
  rw [run_callFunc_extern Try.func109 (by kernel_rfl) (by kernel_rfl) (by kernel_rfl) (e := Extern.BytealgCompare.compare) (by kernel_rfl), Lib.run_compareString]
  simp only [Result.andThen]
  rw [Oper.upon_value]
  go_wp2
  go_ret
  exact ⟨rfl, rfl⟩
theorem cmpS61 (s t : ByteArray) (w : World) :
    Calls Try.prog 73 #[.string s, .string t] w fun e w' => e = .returned (.int .i64 (Lib.compareBytes s.data.toList t.data.toList)) ∧ w' = w := by
  go_enter Try.func73, Try.ntmps73
  go_wp2_with (go_at_call 89; refine (cmpS77 _ _ _).mono ?_; rintro e w' ⟨rfl, rfl⟩)
  go_ret
  exact ⟨rfl, rfl⟩
theorem clos60 (l : List ByteArray) (i j : Nat) (hi : i < l.length) (hj : j < l.length) (b off c gb : Nat) (w : World) (hb : w.cell? ⟨gb, 0, none⟩ = some (.slice (some ⟨b, off, none⟩) l.length c)) (h1 : w.cell? ⟨b, off + i, none⟩ = some (.string (txt l i))) (h2 : w.cell? ⟨b, off + j, none⟩ = some (.string (txt l j))) :
    Calls Try.prog 72 #[.int .i64 (i : Int), .int .i64 (j : Int), .pointer (some ⟨gb, 0, none⟩)] w fun e w' => e = .returned (.int .i64 (cfV l i j)) ∧ ∃ q, w' = w.drewN q := by
  have CC : Hid (∀ W, Calls Try.prog 73 #[.string (txt l i), .string (txt l j)] W fun e w' => e = .returned (.int .i64 (cfV l i j)) ∧ w' = W) := fun w => cmpS61 _ _ w
  revert CC h1 h2
  generalize txt l i = s, txt l j = t, cfV l i j = r
  intro h1 h2 CC
  have hi0 : (0 : Int) ≤ (i : Int) := by omega
  have hj0 : (0 : Int) ≤ (j : Int) := by omega
  have hi1 : (i : Int) < (l.length : Int) := by omega
  have hj1 : (j : Int) < (l.length : Int) := by omega
  go_enter Try.func72, Try.ntmps72
  go_wp2_with fail
  go_quiet ((go_at_call 73; exact Calls.quiet_of_same (CC.out _)))
  go_wp2
  go_ret
  exact ⟨rfl, nq, rfl⟩
end Go.Proofs.Ytceaklefdahfkab
