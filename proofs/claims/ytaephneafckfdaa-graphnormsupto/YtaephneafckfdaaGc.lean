/- Graphs: the document's Check; lists of edges held against one another. -/
import Derived.Test.YtaephneafckfdaaGb
namespace Go.Proofs.Ytaephneafckfdaa
open Go.RowKit
set_option maxRecDepth 100000 in
set_option maxHeartbeats 1000000 in
theorem checkR_any (N : Int) (E : List (Int × Int)) (v : Value) (w : World) (hv : El v E w) :
    Calls Try.prog 11 #[grV N v] w fun e w' => e = .returned (.tuple #[.int .i64 ((chk N E).1 : Int), .int .i64 ((chk N E).2 : Int)]) ∧ Below w.heap.size w w' := by
  obtain ⟨o, c, rfl, hl, ho⟩ := hv.form
  have hb : Below w.heap.size w (w.alloc (.cells #[.int .i64 N, .slice o E.length c] 24)) := (Below.refl _ w).alloc (Nat.le_refl _) _
  unfold grV
  clear hv
  by_cases h1 : N < 0
  · have e1 : chk N E = (2, 0) := by unfold chk; rw [if_pos (.inl h1)]
    rw [e1]
    go_enter Try.func11, Try.ntmps11
    go_wp2
    go_ret2
    exact ⟨rfl, hb⟩
  by_cases h2 : 8192 < N
  · have e1 : chk N E = (2, 0) := by unfold chk; rw [if_pos (.inr h2)]
    rw [e1]
    go_enter Try.func11, Try.ntmps11
    go_wp2
    go_ret2
    exact ⟨rfl, hb⟩
  by_cases h3 : 1048576 < E.length
  · have e1 : chk N E = (1, 0) := by unfold chk; rw [if_neg (by omega), if_pos h3]
    rw [e1]
    have h3' : (1048576 : Int) < (E.length : Int) := by omega
    go_enter Try.func11, Try.ntmps11
    go_wp2
    go_ret2
    exact ⟨rfl, hb⟩
  have HC : Hid (chk N E = edgV (badF N E 0)) := by show chk N E = _; unfold chk; rw [if_neg (by omega), if_neg h3]
  have h3' : ¬ (1048576 : Int) < (E.length : Int) := by omega
  have HB : Hid (Below w.heap.size w (w.alloc (.cells #[.int .i64 N, .slice o E.length c] 24)) ∧ (w.alloc (.cells #[.int .i64 N, .slice o E.length c] 24)).heap[w.heap.size]? = some (.cells #[.int .i64 N, .slice o E.length c] 24 (0, 0))) := ⟨hb, heap_alloc_new _ _⟩
  clear hb
  go_enter Try.func11, Try.ntmps11
  go_wp2_with fail
  go_loopw [4] (fun i wr => ∃ k : Nat, i = .int .i64 (k : Int) ∧ k ≤ E.length ∧ Hid (badF N E 0 = badF N (E.drop k) k) ∧ Hid (Below w.heap.size w wr ∧ wr.heap[w.heap.size]? = some (.cells #[.int .i64 N, .slice o E.length c] 24 (0, 0)))) (fun i _ => E.length - (intOf i).toNat)
  case atStart => exact ⟨0, rfl, Nat.zero_le _, rfl, HB⟩
  case round =>
    clear HB
    obtain ⟨k, rfl, hk, HO, HR⟩ := hrel
    have r0 : wr.cell? ⟨w.heap.size, 0, none⟩ = some (.int .i64 N) := (cell_of_row _ _ _ _ _ _ HR.out.2).trans rfl
    by_cases hlt : k < E.length
    · obtain ⟨b, off, rfl, hbb, hc⟩ := ho (by omega)
      have r1 : wr.cell? ⟨w.heap.size, 1, none⟩ = some (.slice (some ⟨b, off, none⟩) E.length c) := (cell_of_row _ _ _ _ _ _ HR.out.2).trans rfl
      have hk1 : (k : Int) < (E.length : Int) := by omega
      have hk0 : (0 : Int) ≤ (k : Int) := by omega
      have hk2 : (k : Int) + 1 < 9223372036854775808 := by omega
      have c1 := (World.cell?_of_block (w := w) (HR.out.1.block b hbb)).trans (hc k hlt).1
      have c2 := (World.cell?_of_block (w := w) (HR.out.1.block b hbb)).trans (hc k hlt).2
      have HS : Hid (badF N E 0 = if okE N (E.getD k (0, 0)) then badF N (E.drop (k + 1)) (k + 1) else some k) := by show _ = _; rw [HO.out, badF_drop N E k hlt]
      unfold okE at HS
      revert c1 c2 HS
      generalize (E.getD k (0, 0)).1 = x1, (E.getD k (0, 0)).2 = x2
      intro c1 c2 HS
      clear ho hc hl h3 h3' h1 h2 hbb HO hk
      by_cases p1 : 0 ≤ x1
      · by_cases p2 : x1 < N
        · by_cases p3 : 0 ≤ x2
          · by_cases p4 : x2 < N
            · have HS2 : Hid (badF N E 0 = badF N (E.drop (k + 1)) (k + 1)) := by show _ = _; rw [HS.out, if_pos (decide_eq_true ⟨p1, p2, p3, p4⟩)]
              have d1 : decide (x1 < 0) = false := decide_eq_false (by omega)
              have d2 : decide (N ≤ x1) = false := decide_eq_false (by omega)
              have d3 : decide (x2 < 0) = false := decide_eq_false (by omega)
              have d4 : decide (N ≤ x2) = false := decide_eq_false (by omega)
              clear HS p1 p2 p3 p4
              go_wp2
              go_roundw
              case rel => exact ⟨k + 1, rfl, hlt, HS2.out, HR⟩
              case measure => simp only [intOf]; omega
            · have HE : Hid (chk N E = (80, k)) := by show _ = _; rw [HC.out, HS.out, if_neg (by simp; omega)]; rfl
              have d1 : decide (x1 < 0) = false := decide_eq_false (by omega)
              have d2 : decide (N ≤ x1) = false := decide_eq_false (by omega)
              have d3 : decide (x2 < 0) = false := decide_eq_false (by omega)
              have d4 : decide (N ≤ x2) = true := decide_eq_true (by omega)
              clear HS HC p1 p2 p3 p4
              go_wp2
              go_ret2
              rw [HE.out]
              exact ⟨rfl, HR.out.1⟩
          · have HE : Hid (chk N E = (80, k)) := by show _ = _; rw [HC.out, HS.out, if_neg (by simp; omega)]; rfl
            clear HS HC
            go_wp2
            go_ret2
            rw [HE.out]
            exact ⟨rfl, HR.out.1⟩
        · have HE : Hid (chk N E = (80, k)) := by show _ = _; rw [HC.out, HS.out, if_neg (by simp; omega)]; rfl
          clear HS HC
          go_wp2
          go_ret2
          rw [HE.out]
          exact ⟨rfl, HR.out.1⟩
      · have HE : Hid (chk N E = (80, k)) := by show _ = _; rw [HC.out, HS.out, if_neg (by simp; omega)]; rfl
        clear HS HC
        go_wp2
        go_ret2
        rw [HE.out]
        exact ⟨rfl, HR.out.1⟩
    · have r1 : wr.cell? ⟨w.heap.size, 1, none⟩ = some (.slice o E.length c) := (cell_of_row _ _ _ _ _ _ HR.out.2).trans rfl
      have hk1 : ¬ ((k : Int) < (E.length : Int)) := by omega
      have HE : Hid (chk N E = (0, 0)) := by show _ = _; rw [HC.out, HO.out, show k = E.length by omega, List.drop_length]; rfl
      clear ho hl h3 h3' h1 h2 HO hk HC
      go_wp2
      go_ret2
      rw [HE.out]
      exact ⟨rfl, HR.out.1⟩
theorem forIn_step {P : Program} {n : Nat} {f : Nat → (Option Bool × Unit) → Sem (ForInStep (Option Bool × Unit))} (w : World) (q : Nat → Bool) (hf : ∀ i, i < n → ∀ st, (f i st).run P w = .ok (if q i = true then .yield (none, ()) else .done (some false, ())) w) :
    ∀ m s, s + m ≤ n → (forIn (List.range' s m) (none, ()) f).run P w = .ok (if (List.range' s m).all q = true then (none, ()) else (some false, ())) w
  | 0, s, _ => by simp
  | m + 1, s, h => by
    rw [List.range'_succ, List.forIn_cons, Sem.run_bind, hf s (by omega)]
    by_cases hq : q s = true
    · simp only [hq, if_true, Result.andThen_ok, List.all_cons, Bool.true_and]
      exact forIn_step w q hf m (s + 1) (by omega)
    · simp [hq]
theorem run_part3 (w : World) (a b : Int) (i : Nat) (hi : i < 2) : (part 3 #[.int .i64 a, .int .i64 b] i).run Try.prog w = .ok (.int .i64 (if i = 0 then a else b)) w := by
  have hagg : (isAgg 3).run Try.prog w = .ok false w := by
    unfold isAgg
    rw [Sem.run_bind, run_underlying Try.underlying3 w]
    simp
  have : i = 0 ∨ i = 1 := by omega
  rcases this with rfl | rfl <;> simp [part, Sem.run_bind, hagg]
theorem run_size3 (w : World) : (sizeOf 3).run Try.prog w = .ok 1 w := by
  obtain ⟨i, hi, _, hs, _⟩ := info_parts info3
  simp [sizeOf, typeInfo, hi, hs]
/-- Two edges held against one another, kept shut. -/
def eqA (x y : Value) : Sem Bool := Op.equalIn 10000 53 x y
theorem toEqA (x y : Value) : Op.equalIn 10000 53 x y = eqA x y := rfl
theorem run_eqA (w : World) (a b c d : Int) : (eqA (.agg #[.int .i64 a, .int .i64 b]) (.agg #[.int .i64 c, .int .i64 d])).run Try.prog w = .ok (decide (a = c ∧ b = d)) w := by
  show (Op.equalIn (9998 + 2) 53 _ _).run Try.prog w = _
  rw [Op.equalIn]
  simp only [Sem.run_bind, run_underlying Try.underlying53, Result.andThen_ok, run_size3]
  rw [Std.Legacy.Range.forIn_eq_forIn_range']
  have hs : ([:2] : Std.Legacy.Range).size = 2 := by simp [Std.Legacy.Range.size]
  rw [hs]
  rw [forIn_step (n := 2) w (fun i => (if i = 0 then a else b) == (if i = 0 then c else d)) ?_ 2 0 (by omega)]
  · by_cases h1 : a = c
    · by_cases h2 : b = d
      · simp [h1, h2, List.range']
      · simp [h1, h2, List.range']
    · simp [h1, List.range']
  · intro i hi st
    simp only [Nat.mul_one, Sem.run_bind, run_part3 w a b i hi, run_part3 w c d i hi, Result.andThen_ok, run_equalIn_int w (9998) 3 .i64 .i64 _ _ Try.underlying3]
    generalize ((if i = 0 then a else b) == (if i = 0 then c else d)) = q
    cases q <;> rfl
attribute [local go_sem ↓] toEqA
/- Two lists that are alike. -/
set_option maxRecDepth 100000 in
theorem sameE_any (l : List (Int × Int)) (v u : Value) (w : World) (hv : El v l w) (hu : El u l w) :
    Calls Try.prog 37 #[v, u] w fun e w' => e = .returned (.bool true) ∧ ∃ q, w' = w.drewN q := by
  obtain ⟨o, c, rfl, hl, ho⟩ := hv.form
  obtain ⟨o2, c2, rfl, _, ho2⟩ := hu.form
  clear hv hu
  go_enter Try.func37, Try.ntmps37
  go_wp2_with fail
  go_loopw [5] (fun i wr => ∃ k q : Nat, i = .int .i64 (k : Int) ∧ Hid (wr = w.drewN q)) (fun i _ => l.length - (intOf i).toNat)
  case atStart => exact ⟨0, 0, rfl, rfl⟩
  case round =>
    obtain ⟨k, q, rfl, HW⟩ := hrel
    by_cases hlt : k < l.length
    · obtain ⟨b, off, rfl, hb, hc⟩ := ho (by omega)
      obtain ⟨b2, off2, rfl, hb2, hc2⟩ := ho2 (by omega)
      have hk1 : (k : Int) < (l.length : Int) := by omega
      have hk0 : (0 : Int) ≤ (k : Int) := by omega
      have c1 : wr.cell? ⟨b, off + k * 2, none⟩ = some (.int .i64 (l.getD k (0, 0)).1) := by rw [HW.out]; exact (hc k hlt).1
      have c2 : wr.cell? ⟨b, off + k * 2 + 1, none⟩ = some (.int .i64 (l.getD k (0, 0)).2) := by rw [HW.out]; exact (hc k hlt).2
      have c3 : wr.cell? ⟨b2, off2 + k * 2, none⟩ = some (.int .i64 (l.getD k (0, 0)).1) := by rw [HW.out]; exact (hc2 k hlt).1
      have c4 : wr.cell? ⟨b2, off2 + k * 2 + 1, none⟩ = some (.int .i64 (l.getD k (0, 0)).2) := by rw [HW.out]; exact (hc2 k hlt).2
      revert c1 c2 c3 c4
      generalize (l.getD k (0, 0)).1 = x1, (l.getD k (0, 0)).2 = x2
      intro c1 c2 c3 c4
      have he := fun W => run_eqA W x1 x2 x1 x2
      rw [decide_eq_true ⟨rfl, rfl⟩] at he
      clear hc ho hc2 ho2
      go_wp2_with fail
      go_quiet (fail)
      go_wp2
      exact ⟨⟨k + 1, q + nq, by rfl, by show _ = _; rw [HW.out, World.drewN_drewN]⟩, by simp only [intOf]; omega⟩
    · have hk1 : ¬ ((k : Int) < (l.length : Int)) := by omega
      go_wp2
      go_ret
      exact ⟨rfl, q, HW.out⟩
end Go.Proofs.Ytaephneafckfdaa
