/- JournalReplays: the document's fits. Made by a program. -/
import Derived.Test.YtlhpkpedooklnaaDoorJsA
namespace Go.Proofs.YtlhpkpedooklnaaDoor
open Go.RowKit
open JM
/-- Where the document is in a file, as it lies. -/
def rgA (s : St) (tb tt tp : Value) (stt pl : Nat) : Array Value := #[.bool s.live, .int .i64 (s.good : Int), .int .i64 (s.gen : Int), .int .i64 (s.first : Int), tb, tt, .int .i64 (stt : Int), .int .i64 (pl : Int), .bool s.headed, tp]
theorem rT {p : Prop} [Decidable p] (h : p) : Ending.returned (.bool true) = .returned (.bool (decide p)) := by rw [decide_eq_true h]
theorem rF {p : Prop} [Decidable p] (h : ¬ p) : Ending.returned (.bool false) = .returned (.bool (decide p)) := by rw [decide_eq_false h]
theorem beqT {a b : Nat} (h : a = b) : ((a : Int) == (b : Int)) = true := by rw [beq_int]; simp [h]
theorem beqF {a b : Nat} (h : a ≠ b) : ((a : Int) == (b : Int)) = false := by rw [beq_int]; simp [h]
set_option maxRecDepth 100000 in
set_option maxHeartbeats 1600000 in
theorem fits_head (W : World) {g : Nat} {s : St} {ab at_ ap : Option Addr} {cb ct cp stt pl : Nat} (hg : W.heap[g]? = some (.cells (rgA s (.slice ab s.base.length cb) (.slice at_ s.batches.length ct) (.slice ap s.pending.length cp) stt pl) 56 (0, 0))) (hh : s.headed = false) (k n len : Nat) :
    Calls Tryd.prog 22 #[.pointer (some ⟨g, 0, none⟩), .int .i64 (k : Int), .int .i64 (lowN n), .int .i64 (len : Int)] W fun e w' => e = .returned (.bool (s.ok k n len)) ∧ Below W.heap.size W w' := by
  have c8 : W.cell? ⟨g, 8, none⟩ = some (.bool false) := by rw [cell_of_row _ _ _ _ _ _ hg, ← hh]; rfl
  have hok : s.ok k n len = decide (k = 1 ∧ 1 ≤ n ∧ n ≤ 4611686018427387904 ∧ len = 8) := by unfold St.ok; rw [if_pos hh]
  obtain ⟨b, hb⟩ : ∃ b, s.ok k n len = b := ⟨_, rfl⟩
  rw [hb] at hok ⊢
  have HB := mkHid hok
  clear hok hg hb
  unfold lowN
  by_cases hn : n ≤ 4611686018427387904
  · rw [if_pos hn]
    have h1 : ¬ (n : Int) < 0 := by omega
    by_cases hl : len ≤ 2097152
    · have h2 : ¬ (2097152 : Int) < (len : Int) := by omega
      by_cases e1 : k = 1
      · subst e1
        by_cases e2 : 1 ≤ n
        · have e2' : (1 : Int) ≤ (n : Int) := by omega
          by_cases e3 : len = 8
          · subst e3
            go_enter Tryd.func22, Tryd.ntmps22
            go_wp2
            go_ret
            exact ⟨by rw [HB.out]; exact rT (by first | omega | (simp; done) | (simp; omega)), Below.refl _ _⟩
          · have e3' : ((len : Int) == 8) = false := by rw [show ((8 : Int)) = ((8 : Nat) : Int) from rfl]; exact beqF e3
            go_enter Tryd.func22, Tryd.ntmps22
            go_wp2
            go_ret
            exact ⟨by rw [HB.out]; exact rF (by first | omega | (simp; done) | (simp; omega)), Below.refl _ _⟩
        · have e2' : ¬ (1 : Int) ≤ (n : Int) := by omega
          go_enter Tryd.func22, Tryd.ntmps22
          go_wp2
          go_ret
          exact ⟨by rw [HB.out]; exact rF (by first | omega | (simp; done) | (simp; omega)), Below.refl _ _⟩
      · have e1' : ((k : Int) == 1) = false := by rw [show ((1 : Int)) = ((1 : Nat) : Int) from rfl]; exact beqF e1
        go_enter Tryd.func22, Tryd.ntmps22
        go_wp2
        go_ret
        exact ⟨by rw [HB.out]; exact rF (by first | omega | (simp; done) | (simp; omega)), Below.refl _ _⟩
    · have h2 : (2097152 : Int) < (len : Int) := by omega
      go_enter Tryd.func22, Tryd.ntmps22
      go_wp2
      go_ret
      exact ⟨by rw [HB.out]; exact rF (by first | omega | (simp; done) | (simp; omega)), Below.refl _ _⟩
  · rw [if_neg hn]
    go_enter Tryd.func22, Tryd.ntmps22
    go_wp2
    go_ret
    exact ⟨by rw [HB.out]; exact rF (by first | omega | (simp; done) | (simp; omega)), Below.refl _ _⟩
set_option maxRecDepth 100000 in
set_option maxHeartbeats 1600000 in
theorem fits_base (W : World) {g : Nat} {s : St} {ab at_ ap : Option Addr} {cb ct cp stt pl : Nat} (hg : W.heap[g]? = some (.cells (rgA s (.slice ab s.base.length cb) (.slice at_ s.batches.length ct) (.slice ap s.pending.length cp) stt pl) 56 (0, 0))) (hh : s.headed = true) (hv : s.live = false) (hbl : s.base.length ≤ 100000000) (k n len : Nat) :
    Calls Tryd.prog 22 #[.pointer (some ⟨g, 0, none⟩), .int .i64 (k : Int), .int .i64 (lowN n), .int .i64 (len : Int)] W fun e w' => e = .returned (.bool (s.ok k n len)) ∧ Below W.heap.size W w' := by
  have c8 : W.cell? ⟨g, 8, none⟩ = some (.bool true) := by rw [cell_of_row _ _ _ _ _ _ hg, ← hh]; rfl
  have c0 : W.cell? ⟨g, 0, none⟩ = some (.bool false) := by rw [cell_of_row _ _ _ _ _ _ hg, ← hv]; rfl
  have c4 : W.cell? ⟨g, 4, none⟩ = some (.slice ab s.base.length cb) := (cell_of_row _ _ _ _ _ _ hg).trans rfl
  have hok : s.ok k n len = decide ((k = 2 ∧ n = s.base.length ∧ n < 8192 ∧ len ≤ 2097152) ∨ (k = 3 ∧ n = s.base.length ∧ len = 0)) := by unfold St.ok; rw [if_neg (by rw [hh]; decide), if_pos hv, Bool.decide_or]
  obtain ⟨b, hb⟩ : ∃ b, s.ok k n len = b := ⟨_, rfl⟩
  rw [hb] at hok ⊢
  have HB := mkHid hok
  clear hok hg hb
  obtain ⟨m, hm⟩ : ∃ m, s.base.length = m := ⟨_, rfl⟩
  rw [hm] at c4 hbl HB
  unfold lowN
  by_cases hn : n ≤ 4611686018427387904
  · rw [if_pos hn]
    have h1 : ¬ (n : Int) < 0 := by omega
    by_cases hl : len ≤ 2097152
    · have h2 : ¬ (2097152 : Int) < (len : Int) := by omega
      by_cases e1 : k = 2
      · subst e1
        by_cases e2 : n = m
        · subst e2
          by_cases e3 : n < 8192
          · have e3' : (n : Int) < 8192 := by omega
            go_enter Tryd.func22, Tryd.ntmps22
            go_wp2
            go_ret
            exact ⟨by rw [HB.out]; exact rT (by first | omega | (simp; done) | (simp; omega)), Below.refl _ _⟩
          · have e3' : ¬ (n : Int) < 8192 := by omega
            go_enter Tryd.func22, Tryd.ntmps22
            go_wp2
            go_ret
            exact ⟨by rw [HB.out]; exact rF (by first | omega | (simp; done) | (simp; omega)), Below.refl _ _⟩
        · have e2' := beqF e2
          go_enter Tryd.func22, Tryd.ntmps22
          go_wp2
          go_ret
          exact ⟨by rw [HB.out]; exact rF (by first | omega | (simp; done) | (simp; omega)), Below.refl _ _⟩
      · have e1' : ((k : Int) == 2) = false := by rw [show ((2 : Int)) = ((2 : Nat) : Int) from rfl]; exact beqF e1
        by_cases e4 : k = 3
        · subst e4
          by_cases e2 : n = m
          · subst e2
            by_cases e3 : len = 0
            · subst e3
              go_enter Tryd.func22, Tryd.ntmps22
              go_wp2
              go_ret
              exact ⟨by rw [HB.out]; exact rT (by first | omega | (simp; done) | (simp; omega)), Below.refl _ _⟩
            · have e3' : ((len : Int) == 0) = false := by rw [show ((0 : Int)) = ((0 : Nat) : Int) from rfl]; exact beqF e3
              go_enter Tryd.func22, Tryd.ntmps22
              go_wp2
              go_ret
              exact ⟨by rw [HB.out]; exact rF (by first | omega | (simp; done) | (simp; omega)), Below.refl _ _⟩
          · have e2' := beqF e2
            go_enter Tryd.func22, Tryd.ntmps22
            go_wp2
            go_ret
            exact ⟨by rw [HB.out]; exact rF (by first | omega | (simp; done) | (simp; omega)), Below.refl _ _⟩
        · have e4' : ((k : Int) == 3) = false := by rw [show ((3 : Int)) = ((3 : Nat) : Int) from rfl]; exact beqF e4
          go_enter Tryd.func22, Tryd.ntmps22
          go_wp2
          go_ret
          exact ⟨by rw [HB.out]; exact rF (by first | omega | (simp; done) | (simp; omega)), Below.refl _ _⟩
    · have h2 : (2097152 : Int) < (len : Int) := by omega
      go_enter Tryd.func22, Tryd.ntmps22
      go_wp2
      go_ret
      exact ⟨by rw [HB.out]; exact rF (by first | omega | (simp; done) | (simp; omega)), Below.refl _ _⟩
  · rw [if_neg hn]
    go_enter Tryd.func22, Tryd.ntmps22
    go_wp2
    go_ret
    exact ⟨by rw [HB.out]; exact rF (by first | omega | (simp; done) | (simp; omega)), Below.refl _ _⟩
set_option maxRecDepth 100000 in
set_option maxHeartbeats 1600000 in
theorem fits_live (W : World) {g : Nat} {s : St} {ab at_ ap : Option Addr} {cb ct cp stt pl : Nat} (hg : W.heap[g]? = some (.cells (rgA s (.slice ab s.base.length cb) (.slice at_ s.batches.length ct) (.slice ap s.pending.length cp) stt pl) 56 (0, 0))) (hh : s.headed = true) (hv : s.live = true) (hbl : s.pending.length ≤ 100000000) (hfb : s.first + s.batches.length ≤ 5000000000000000000) (k n len : Nat) :
    Calls Tryd.prog 22 #[.pointer (some ⟨g, 0, none⟩), .int .i64 (k : Int), .int .i64 (lowN n), .int .i64 (len : Int)] W fun e w' => e = .returned (.bool (s.ok k n len)) ∧ Below W.heap.size W w' := by
  have c8 : W.cell? ⟨g, 8, none⟩ = some (.bool true) := by rw [cell_of_row _ _ _ _ _ _ hg, ← hh]; rfl
  have c0 : W.cell? ⟨g, 0, none⟩ = some (.bool true) := by rw [cell_of_row _ _ _ _ _ _ hg, ← hv]; rfl
  have c9 : W.cell? ⟨g, 9, none⟩ = some (.slice ap s.pending.length cp) := (cell_of_row _ _ _ _ _ _ hg).trans rfl
  have c3 : W.cell? ⟨g, 3, none⟩ = some (.int .i64 (s.first : Int)) := (cell_of_row _ _ _ _ _ _ hg).trans rfl
  have c5 : W.cell? ⟨g, 5, none⟩ = some (.slice at_ s.batches.length ct) := (cell_of_row _ _ _ _ _ _ hg).trans rfl
  have hok : s.ok k n len = decide ((k = 4 ∧ n = s.pending.length ∧ n < 8192 ∧ len ≤ 2097152) ∨ (k = 5 ∧ n = s.first + s.batches.length ∧ n ≤ 4611686018427387904 ∧ len = 4)) := by unfold St.ok; rw [if_neg (by rw [hh]; decide), if_neg (by rw [hv]; decide), Bool.decide_or]
  obtain ⟨b, hb⟩ : ∃ b, s.ok k n len = b := ⟨_, rfl⟩
  rw [hb] at hok ⊢
  have HB := mkHid hok
  clear hok hg hb
  obtain ⟨m, hm⟩ : ∃ m, s.pending.length = m := ⟨_, rfl⟩
  rw [hm] at c9 hbl HB
  obtain ⟨q, hq⟩ : ∃ q, s.first + s.batches.length = q := ⟨_, rfl⟩
  have hq2 : (s.first : Int) + (s.batches.length : Int) = (q : Int) := by omega
  rw [hq] at hfb HB
  unfold lowN
  by_cases hn : n ≤ 4611686018427387904
  · rw [if_pos hn]
    have h1 : ¬ (n : Int) < 0 := by omega
    by_cases hl : len ≤ 2097152
    · have h2 : ¬ (2097152 : Int) < (len : Int) := by omega
      by_cases e1 : k = 4
      · subst e1
        by_cases e2 : n = m
        · subst e2
          by_cases e3 : n < 8192
          · have e3' : (n : Int) < 8192 := by omega
            go_enter Tryd.func22, Tryd.ntmps22
            go_wp2
            go_ret
            exact ⟨by rw [HB.out]; exact rT (by first | omega | (simp; done) | (simp; omega)), Below.refl _ _⟩
          · have e3' : ¬ (n : Int) < 8192 := by omega
            go_enter Tryd.func22, Tryd.ntmps22
            go_wp2
            go_ret
            exact ⟨by rw [HB.out]; exact rF (by first | omega | (simp; done) | (simp; omega)), Below.refl _ _⟩
        · have e2' := beqF e2
          go_enter Tryd.func22, Tryd.ntmps22
          go_wp2
          go_ret
          exact ⟨by rw [HB.out]; exact rF (by first | omega | (simp; done) | (simp; omega)), Below.refl _ _⟩
      · have e1' : ((k : Int) == 4) = false := by rw [show ((4 : Int)) = ((4 : Nat) : Int) from rfl]; exact beqF e1
        by_cases e4 : k = 5
        · subst e4
          by_cases e2 : n = q
          · subst e2
            by_cases e3 : len = 4
            · subst e3
              go_enter Tryd.func22, Tryd.ntmps22
              go_wp2_with fail
              go_quiet (fail)
              go_wp2_with fail
              go_ret
              exact ⟨by rw [HB.out]; exact rT (by first | omega | (simp; done) | (simp; omega)), below_drewN (Below.refl _ _) _⟩
            · have e3' : ((len : Int) == 4) = false := by rw [show ((4 : Int)) = ((4 : Nat) : Int) from rfl]; exact beqF e3
              go_enter Tryd.func22, Tryd.ntmps22
              go_wp2_with fail
              go_quiet (fail)
              go_wp2_with fail
              go_ret
              exact ⟨by rw [HB.out]; exact rF (by first | omega | (simp; done) | (simp; omega)), below_drewN (Below.refl _ _) _⟩
          · have e2' := beqF e2
            go_enter Tryd.func22, Tryd.ntmps22
            go_wp2_with fail
            go_quiet (fail)
            go_wp2_with fail
            go_ret
            exact ⟨by rw [HB.out]; exact rF (by first | omega | (simp; done) | (simp; omega)), below_drewN (Below.refl _ _) _⟩
        · have e4' : ((k : Int) == 5) = false := by rw [show ((5 : Int)) = ((5 : Nat) : Int) from rfl]; exact beqF e4
          go_enter Tryd.func22, Tryd.ntmps22
          go_wp2_with fail
          go_quiet (fail)
          go_wp2_with fail
          go_ret
          exact ⟨by rw [HB.out]; exact rF (by first | omega | (simp; done) | (simp; omega)), below_drewN (Below.refl _ _) _⟩
    · have h2 : (2097152 : Int) < (len : Int) := by omega
      go_enter Tryd.func22, Tryd.ntmps22
      go_wp2
      go_ret
      exact ⟨by rw [HB.out]; exact rF (by first | omega | (simp; done) | (simp; omega)), Below.refl _ _⟩
  · rw [if_neg hn]
    go_enter Tryd.func22, Tryd.ntmps22
    go_wp2
    go_ret
    exact ⟨by rw [HB.out]; exact rF (by first | omega | (simp; done) | (simp; omega)), Below.refl _ _⟩
theorem fits_any (W : World) {g : Nat} {s : St} {ab at_ ap : Option Addr} {cb ct cp stt pl : Nat} (hg : W.heap[g]? = some (.cells (rgA s (.slice ab s.base.length cb) (.slice at_ s.batches.length ct) (.slice ap s.pending.length cp) stt pl) 56 (0, 0))) (hbl : s.base.length ≤ 100000000) (hpl : s.pending.length ≤ 100000000) (hfb : s.first + s.batches.length ≤ 5000000000000000000) (k n len : Nat) :
    Calls Tryd.prog 22 #[.pointer (some ⟨g, 0, none⟩), .int .i64 (k : Int), .int .i64 (lowN n), .int .i64 (len : Int)] W fun e w' => e = .returned (.bool (s.ok k n len)) ∧ Below W.heap.size W w' := by
  cases hh : s.headed with
  | false => exact fits_head W hg hh k n len
  | true =>
    cases hv : s.live with
    | false => exact fits_base W hg hh hv hbl k n len
    | true => exact fits_live W hg hh hv hpl hfb k n len
end Go.Proofs.YtlhpkpedooklnaaDoor
