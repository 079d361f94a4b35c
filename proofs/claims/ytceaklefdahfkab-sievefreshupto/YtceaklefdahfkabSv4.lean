/- The sieve: patterns looked over. -/
import Derived.Test.YtceaklefdahfkabSv3
namespace Go.Proofs.Ytceaklefdahfkab
open Go.RowKit
/-- A slice of texts. -/
def St (v : Value) (l : List ByteArray) (w : World) : Prop :=
  (v = .slice none 0 0 ∧ l = []) ∨ ∃ b off cap, v = .slice (some ⟨b, off, none⟩) l.length cap ∧ l.length ≤ cap ∧ cap ≤ maxLen ∧ b < w.heap.size ∧ ∀ (j : Nat) s, l[j]? = some s → w.cell? ⟨b, off + j, none⟩ = some (.string s)
theorem St.keep {v : Value} {d : List ByteArray} {w w' : World} (h : St v d w) (hs : w.heap.size ≤ w'.heap.size) (hb : ∀ g, v.ownBlock = some g → g < w.heap.size → w'.heap[g]? = w.heap[g]?) : St v d w' := by
  rcases h with h | ⟨b, off, cap, rfl, h2, h3, h5, h6⟩
  · exact .inl h
  · exact .inr ⟨b, off, cap, rfl, h2, h3, by omega, fun j s hj => (World.cell?_of_block (w := w) (hb b rfl h5)).trans (h6 j s hj)⟩
theorem St.below {v : Value} {d : List ByteArray} {w w' : World} (h : St v d w) (hb : Below w.heap.size w w') : St v d w' := h.keep hb.size fun g _ hg => hb.block g hg
theorem St.form {v : Value} {d : List ByteArray} {w : World} (h : St v d w) : ∃ o c, v = .slice o d.length c ∧ d.length ≤ c ∧ c ≤ 9223372036854775807 ∧ (0 < d.length → ∃ b off, o = some ⟨b, off, none⟩ ∧ b < w.heap.size ∧ ∀ (j : Nat) s, d[j]? = some s → w.cell? ⟨b, off + j, none⟩ = some (.string s)) := by
  rcases h with ⟨rfl, rfl⟩ | ⟨b, off, cap, rfl, h2, h3, h5, h6⟩
  · exact ⟨none, 0, rfl, Nat.le_refl _, by omega, fun h => by simp at h⟩
  · exact ⟨_, cap, rfl, h2, by unfold maxLen at h3; omega, fun _ => ⟨b, off, rfl, h5, h6⟩⟩
def allW (n : Nat) (l : List ByteArray) : Bool := l.all fun s => decide (s.size = n)
theorem all_take {n : Nat} {l : List ByteArray} {k : Nat} {s : ByteArray} (h : l[k]? = some s) : allW n (l.take (k + 1)) = (allW n (l.take k) && decide (s.size = n)) := by
  unfold allW
  rw [List.take_add_one, h, List.all_append]
  simp
theorem all_stop {n : Nat} {l : List ByteArray} {k : Nat} {s : ByteArray} (h : l[k]? = some s) (hs : ¬ s.size = n) : allW n l = false := by
  unfold allW
  rw [List.all_eq_false]
  exact ⟨s, List.mem_of_getElem? h, by simpa using hs⟩
theorem allOf_any (l : List ByteArray) (hl : l.length ≤ 1099511627776) (n : Nat) (v : Value) (w : World) (hv : St v l w) :
    Calls Try.prog 52 #[v, .int .i64 (n : Int)] w fun e w' => e = .returned (.bool (allW n l)) ∧ w' = w := by
  obtain ⟨o, c, rfl, _, _, ho⟩ := hv.form
  clear hv
  have HO : Hid _ := ho
  clear ho
  go_enter Try.func52, Try.ntmps52
  go_wp2_with fail
  go_loopw [9] (fun i wr => ∃ k : Nat, i = .int .i64 (k : Int) ∧ k ≤ l.length ∧ Hid (allW n (l.take k) = true) ∧ wr = w) (fun i _ => l.length - (intOf i).toNat)
  case atStart => exact ⟨0, rfl, by omega, rfl, rfl⟩
  case round =>
    obtain ⟨k, rfl, hk, HA, hwr⟩ := hrel
    subst hwr
    by_cases hlt : k < l.length
    · have hk0 : (0 : Int) ≤ (k : Int) := by omega
      have hk1 : (k : Int) < (l.length : Int) := by omega
      obtain ⟨s, hs⟩ : ∃ s, l[k]? = some s := ⟨_, List.getElem?_eq_getElem hlt⟩
      obtain ⟨b, off, rfl, _, hc⟩ := HO.out (by omega)
      have cs := hc k s hs
      clear hc
      by_cases he : s.size = n
      · have he' : (s.size : Int) = (n : Int) := by omega
        have HA1 : Hid (allW n (l.take (k + 1)) = true) := by show _ = _; rw [all_take hs, HA.out, he]; simp
        clear hs HA he
        go_wp2
        exact ⟨⟨k + 1, by rfl, by omega, HA1, trivial⟩, by simp only [intOf]; omega⟩
      · have he' : ¬ ((s.size : Int) = (n : Int)) := by omega
        have HF : Hid (allW n l = false) := all_stop hs he
        clear hs HA he
        go_wp2
        go_ret
        exact ⟨by rw [HF.out]; rfl, rfl⟩
    · have hk1 : ¬ ((k : Int) < (l.length : Int)) := by omega
      have HF : Hid (allW n l = true) := by have := HA.out; rw [List.take_of_length_le (by omega)] at this; exact this
      go_wp2
      go_ret
      exact ⟨by rw [HF.out]; rfl, rfl⟩
/-- The one length of all patterns. -/
def wdO : List ByteArray → Nat × Bool
  | [] => (0, true)
  | s :: r => (s.size, decide (0 < s.size) && (decide (s.size ≤ 64) && allW s.size (s :: r)))
theorem widthOf_any (l : List ByteArray) (hl : l.length ≤ 1099511627776) (hs : ∀ s ∈ l, s.size ≤ 1099511627776) (v : Value) (w : World) (hv : St v l w) :
    Calls Try.prog 45 #[v] w fun e w' => e = .returned (.tuple #[.int .i64 ((wdO l).1 : Int), .bool (wdO l).2]) ∧ w' = w := by
  cases l with
  | nil =>
    obtain ⟨o, c, rfl, _⟩ := hv.form
    clear hv
    go_enter Try.func45, Try.ntmps45
    go_wp2
    go_ret2
    exact ⟨rfl, rfl⟩
  | cons s r =>
    have CA : Hid (Calls Try.prog 52 #[v, .int .i64 (s.size : Int)] w fun e w' => e = .returned (.bool (allW s.size (s :: r))) ∧ w' = w) := allOf_any _ hl s.size v w hv
    obtain ⟨o, c, rfl, _, _, ho⟩ := hv.form
    obtain ⟨b, off, rfl, _, hc⟩ := ho (by simp)
    have cs := hc 0 s rfl
    rw [Nat.add_zero] at cs
    have hz := hs s (by simp)
    have hrl : (r.length : Int) + 1 ≠ 0 := by omega
    have hlen : (s :: r).length = r.length + 1 := rfl
    obtain ⟨n, hn⟩ : ∃ n, n = (s :: r).length := ⟨_, rfl⟩
    have hn0 : ¬ ((n : Int) = 0) := by omega
    have hn1 : (0 : Int) < (n : Int) := by omega
    rw [← hn] at CA ⊢
    have hw1 : (wdO (s :: r)).1 = s.size := rfl
    have hw2 : (wdO (s :: r)).2 = (decide (0 < s.size) && (decide (s.size ≤ 64) && allW s.size (s :: r))) := rfl
    rw [hw1, hw2]
    generalize allW s.size (s :: r) = A at CA ⊢
    clear hv ho hc hn hlen hw1 hw2 hrl hl hs
    by_cases h1 : 0 < s.size
    · by_cases h2 : s.size ≤ 64
      · have h1' : (0 : Int) < (s.size : Int) := by omega
        have h2' : (s.size : Int) ≤ 64 := by omega
        rw [decide_eq_true h1, decide_eq_true h2]
        go_enter Try.func45, Try.ntmps45
        go_wp2_with fail
        refine Calls.mono CA.out ?_
        rintro e w' ⟨rfl, rfl⟩
        go_wp2
        go_ret2
        exact ⟨rfl, rfl⟩
      · have h1' : (0 : Int) < (s.size : Int) := by omega
        have h2' : ¬ ((s.size : Int) ≤ 64) := by omega
        rw [decide_eq_true h1, decide_eq_false h2]
        go_enter Try.func45, Try.ntmps45
        go_wp2
        go_ret2
        exact ⟨rfl, rfl⟩
    · have h1' : ¬ ((0 : Int) < (s.size : Int)) := by omega
      rw [decide_eq_false h1]
      go_enter Try.func45, Try.ntmps45
      go_wp2
      go_ret2
      exact ⟨rfl, rfl⟩
end Go.Proofs.Ytceaklefdahfkab
