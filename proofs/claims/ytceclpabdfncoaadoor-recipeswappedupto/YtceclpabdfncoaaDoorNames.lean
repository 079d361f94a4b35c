import Derived.Test.YtceclpabdfncoaaDoorRows
import Derived.WalkKit
import Derived.WalkSpells
import Derived.WalkLawsBesides
import Derived.Laws.RangeAny
import Derived.Lib.OthersKept
import Derived.BigRegion
namespace Go.Proofs.YtceclpabdfncoaaDoor
open Go.RowKit
def mayN (c : Nat) : Bool := (decide (65 ≤ c) && decide (c ≤ 90)) || (decide (97 ≤ c) && decide (c ≤ 122)) || (decide (48 ≤ c) && decide (c ≤ 57)) || c == 43 || c == 45 || c == 46 || c == 95 || c == 63 || c == 61
theorem mayN_true {r : Nat} (h : (65 ≤ r ∧ r ≤ 90) ∨ (97 ≤ r ∧ r ≤ 122) ∨ (48 ≤ r ∧ r ≤ 57) ∨ r = 43 ∨ r = 45 ∨ r = 46 ∨ r = 95 ∨ r = 63 ∨ r = 61) : mayN r = true := by
  simp only [mayN, Bool.or_eq_true, Bool.and_eq_true, decide_eq_true_eq, beq_iff_eq]; omega
theorem mayN_false {r : Nat} (h : ¬ ((65 ≤ r ∧ r ≤ 90) ∨ (97 ≤ r ∧ r ≤ 122) ∨ (48 ≤ r ∧ r ≤ 57) ∨ r = 43 ∨ r = 45 ∨ r = 46 ∨ r = 95 ∨ r = 63 ∨ r = 61)) : mayN r = false := by
  cases hm : mayN r with
  | false => rfl
  | true => simp only [mayN, Bool.or_eq_true, Bool.and_eq_true, decide_eq_true_eq, beq_iff_eq] at hm; omega
theorem last_eq {r : Nat} (h : ¬ ((65 ≤ r ∧ r ≤ 90) ∨ (97 ≤ r ∧ r ≤ 122) ∨ (48 ≤ r ∧ r ≤ 57))) : ((r : Int) == 43 || (r : Int) == 45 || (r : Int) == 46 || (r : Int) == 95 || (r : Int) == 63 || (r : Int) == 61) = mayN r := by
  rw [Bool.eq_iff_iff]
  simp only [mayN, Bool.or_eq_true, Bool.and_eq_true, decide_eq_true_eq, beq_iff_eq]
  omega
set_option maxHeartbeats 400000 in
theorem inName_any (r : Nat) (w : World) :
    Calls Tryd.prog 42 #[.int .i32 (r : Int)] w fun e w' => e = .returned (.bool (mayN r)) ∧ w' = w := by
  go_enter Tryd.func42, Tryd.ntmps42
  go_wp2
  all_goals (go_ret; refine ⟨?_, rfl⟩)
  all_goals try simp only [beq_iff_eq, beq_eq_false_iff_ne, ne_eq] at *
  all_goals first
    | (rw [mayN_true (by omega)]; rfl)
    | (rw [mayN_false (by omega)]; rfl)
def byt (s : ByteArray) (i : Nat) : Nat := (s.get! i).toNat
theorem byt_lt (s : ByteArray) (i : Nat) : byt s i < 256 := (s.get! i).toNat_lt
theorem byt_at (s : ByteArray) (i : Nat) (h : i < s.size) : (s[i]'h).toNat = byt s i := by
  rw [byt, ← get_at s i h]; rfl
def badAt (s : ByteArray) : Nat → Nat → Option Nat
  | 0, _ => none
  | f + 1, i => if i < s.size then (if mayN (byt s i) = true then badAt s f (i + 1) else some i) else none
theorem badAt_end (s : ByteArray) (f i : Nat) (h : ¬ i < s.size) : badAt s f i = none := by cases f <;> simp [badAt, h]
/-- The error and the place. -/
def checkN (s : ByteArray) : Nat × Nat :=
  if 211 < s.size then (1, 0) else if s.size = 0 ∨ byt s 0 = 46 then (22, 0) else match badAt s s.size 0 with
  | some i => (22, i)
  | none => (0, 0)
def ans (p : Nat × Nat) : Value := .tuple #[.int .i64 (p.1 : Int), .int .i64 (p.2 : Int)]
theorem idx9 (w : World) (s : ByteArray) (k : Nat) (h : k < s.size) : (Instr.index 9 (.string s) (.int .i64 (k : Int))).run Tryd.prog w = .ok (.int .u8 ((byt s k : Nat) : Int)) w := by
  rw [run_index_string _ _ _ _ _ Tryd.underlying9, dif_pos ⟨by omega, by omega⟩]
  simp [byt_at s k h]
set_option maxHeartbeats 1000000 in
theorem check_any (s : ByteArray) (w : World) :
    Calls Tryd.prog 32 #[.string s] w fun e w' => e = .returned (ans (checkN s)) ∧ Below w.heap.size w w' := by
  obtain ⟨a, ha⟩ : ∃ a, a = checkN s := ⟨_, rfl⟩
  rw [← ha]
  by_cases h1 : 211 < s.size
  · have hE : a = (1, 0) := by rw [ha, checkN, if_pos h1]
    clear ha
    subst hE
    have h1' : (211 : Int) < (s.size : Int) := by omega
    go_enter Tryd.func32, Tryd.ntmps32
    go_wp2
    go_ret2
    exact ⟨rfl, Below.refl _ _⟩
  have h1' : ¬ (211 : Int) < (s.size : Int) := by omega
  by_cases h2 : s.size = 0
  · have hE : a = (22, 0) := by rw [ha, checkN, if_neg h1, if_pos (.inl h2)]
    clear ha
    subst hE
    have h2' : s = ⟨#[]⟩ := by
      cases s with | mk d => simpa [ByteArray.size] using h2
    subst h2'
    go_enter Tryd.func32, Tryd.ntmps32
    go_wp2
    go_ret2
    exact ⟨rfl, Below.refl _ _⟩
  have hpos : 0 < s.size := by omega
  have hne : ¬ s.toList = [] := by
    intro h
    rw [ByteArray.toList_eq] at h
    have hz : s.size = s.data.toList.length := Array.length_toList.symm
    rw [h] at hz
    exact h2 hz
  have hne' : s.toList.isEmpty = false := by simpa using hne
  by_cases h3 : byt s 0 = 46
  · have hE : a = (22, 0) := by rw [ha, checkN, if_neg h1, if_pos (.inr h3)]
    clear ha
    subst hE
    have h3' : (s[0]'hpos).toNat = 46 := by rw [byt_at]; exact h3
    clear h3
    go_enter Tryd.func32, Tryd.ntmps32
    go_wp2
    go_ret2
    exact ⟨rfl, Below.refl _ _⟩
  have h3' : ¬ (s[0]'hpos).toNat = 46 := by rw [byt_at]; exact h3
  have HA : Hid (a = match badAt s s.size 0 with | some i => (22, i) | none => (0, 0)) := by
    show _ = _
    rw [ha, checkN, if_neg h1, if_neg (by omega)]
  clear ha
  go_enter Tryd.func32, Tryd.ntmps32
  go_wp2
  go_loopw [] (fun wr => ∃ (k fuel : Nat), wr.heap[w.heap.size]? = some (.stringIter s k) ∧ Below w.heap.size w wr ∧ Hid (badAt s fuel k = badAt s s.size 0) ∧ s.size ≤ k + fuel ∧ k ≤ s.size) (fun wr => s.size - wr.iterPos w.heap.size)
  case atStart => 
    exact ⟨0, s.size, World.iter_heap w s 0, (Below.refl _ w).alloc (Nat.le_refl _) _, rfl, by omega, by omega⟩
  case round =>
    obtain ⟨k, fuel, hit, hbw, Hb, hf, hk⟩ := hrel
    have hsz : w.heap.size < wr.heap.size := (Array.getElem?_eq_some_iff.1 hit).1
    by_cases hlt : k < s.size
    · obtain ⟨f, rfl⟩ : ∃ f, fuel = f + 1 := ⟨fuel - 1, by omega⟩
      have hnx : ∀ ty, (Instr.next (.pointer (some ⟨w.heap.size, 0, none⟩)) true ty).run Tryd.prog wr = _ := fun ty => Lib.run_next_any_at wr w.heap.size s k ty hit hlt
      have hit2 := Lib.iterAt_heap wr w.heap.size s k (k + (Utf8.decode s k).2) hit
      have hbw2 := Lib.below_iterAt hbw (k := w.heap.size) (by omega) s (k + (Utf8.decode s k).2)
      obtain ⟨r, hr⟩ : ∃ r, r = (Utf8.decode s k).1 := ⟨_, rfl⟩
      rw [← hr] at hnx
      obtain ⟨p, hp⟩ : ∃ p, p = (Utf8.decode s k).2 := ⟨_, rfl⟩
      rw [← hp] at hnx hit2 hbw2
      have hmr : mayN r = mayN (byt s k) ∧ (mayN (byt s k) = true → p = 1) := by
        by_cases hb : byt s k < 128
        · have := decode_ascii s k hlt (by rw [byt_at]; exact hb)
          rw [hr, hp, this, byt_at]
          exact ⟨rfl, fun _ => rfl⟩
        · have h8 := (decode_high s k hlt (by rw [byt_at]; omega)).1
          rw [← hr] at h8
          have e1 : mayN r = false := mayN_false (by omega)
          have e2 : mayN (byt s k) = false := mayN_false (by omega)
          rw [e1, e2]
          exact ⟨rfl, fun h => by cases h⟩
      clear hr hp
      by_cases hm : mayN (byt s k) = true
      · have hp1 := hmr.2 hm
        subst hp1
        have hmr1 := hmr.1.trans hm
        go_wp2_with (go_at_call 42; refine (inName_any r _).mono ?_; rintro e w' ⟨rfl, rfl⟩; rw [hmr1])
        go_roundw
        case rel =>
          refine ⟨k + 1, f, hit2, hbw2, ?_, by omega, by omega⟩
          have := Hb.out
          simp only [badAt, hlt, hm, if_true] at this
          exact this
        case measure =>
          simp only [World.iterPos, hit2, hit]
          omega
      · have hm' : mayN (byt s k) = false := by simpa using hm
        have hmr1 := hmr.1.trans hm'
        have HE : Hid (a = (22, k)) := by
          have := Hb.out
          simp only [badAt, hlt, hm', if_true] at this
          have h2 := HA.out
          rw [← this] at h2
          exact h2
        clear hmr
        go_wp2_with (go_at_call 42; refine (inName_any r _).mono ?_; rintro e w' ⟨rfl, rfl⟩; rw [hmr1])
        go_ret2
        exact ⟨by rw [HE.out]; rfl, hbw2⟩
    · have HE : Hid (a = (0, 0)) := by
        have := Hb.out
        rw [badAt_end s fuel k hlt] at this
        have h2 := HA.out
        rw [← this] at h2
        exact h2
      have hnx : ∀ ty, (Instr.next (.pointer (some ⟨w.heap.size, 0, none⟩)) true ty).run Tryd.prog wr = _ := fun ty => Lib.run_next_end_at wr w.heap.size s k ty hit hlt
      go_wp2
      go_ret2
      exact ⟨by rw [HE.out]; rfl, hbw⟩
end Go.Proofs.YtceclpabdfncoaaDoor
