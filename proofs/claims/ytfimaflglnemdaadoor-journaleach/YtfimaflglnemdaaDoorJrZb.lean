/- JournalReplays: the answer, as mathematics. -/
import Derived.Test.YtfimaflglnemdaaDoorJrZa
namespace Go.Proofs.YtfimaflglnemdaaDoor
open Go.RowKit
open JM
def Inv (s : St) : Prop := (s.headed = true → 1 ≤ s.gen) ∧ (s.live = true → s.headed = true)
theorem inv_step {l : List Nat} {s s' : St} {pos p' : Nat} (h : s.step crcN l pos = .got (s', p')) (hi : Inv s) : Inv s' := by
  cases hh : s.headed with
  | false =>
    rw [step_head hh] at h
    cases hR : recd crcN s.ok (l.drop pos) with
    | bad => rw [hR] at h; cases h
    | torn => rw [hR] at h; cases h
    | got r =>
      rw [hR] at h
      dsimp only at h
      split at h
      · injection h with h
        injection h with h1 h2
        subst h1
        obtain ⟨-, -, -, -, -, q6⟩ := recd_got hR
        simp only [St.ok, hh, if_true, decide_eq_true_eq] at q6
        exact ⟨fun _ => q6.2.1, fun _ => rfl⟩
      · cases h
  | true =>
    cases hl : s.live with
    | false =>
      rw [step_base hh hl] at h
      cases hR : recd crcN s.ok (l.drop pos) with
      | bad => rw [hR] at h; cases h
      | torn => rw [hR] at h; cases h
      | got r =>
        rw [hR] at h
        dsimp only at h
        injection h with h
        injection h with h1 h2
        subst h1
        split
        · exact ⟨hi.1, fun _ => hh⟩
        · exact ⟨hi.1, fun _ => hh⟩
    | true =>
      rw [step_batch hh hl] at h
      cases hR : recd crcN s.ok (l.drop pos) with
      | bad => rw [hR] at h; cases h
      | torn => rw [hR] at h; cases h
      | got r =>
        rw [hR] at h
        dsimp only at h
        split at h
        · injection h with h
          injection h with h1 h2
          subst h1
          exact ⟨hi.1, fun _ => hh⟩
        · split at h
          · injection h with h
            injection h with h1 h2
            subst h1
            exact ⟨hi.1, fun _ => hh⟩
          · cases h
theorem inv_run (l : List Nat) : ∀ (n : Nat) (s : St) (pos : Nat), Inv s → Inv (run crcN l n s pos).1
  | 0, s, _, h => h
  | n + 1, s, pos, h => by
    simp only [run]
    split
    · exact h
    · split
      · exact h
      · exact h
      · rename_i s' pos' hs
        exact inv_run l n s' pos' (inv_step hs h)
theorem inv_file (l : List Nat) : Inv (file crcN l).1 := inv_run l _ _ _ ⟨fun h => (by cases h), fun h => (by cases h)⟩
theorem file_gen {l : List Nat} (h : (file crcN l).1.live = true) : 1 ≤ (file crcN l).1.gen := (inv_file l).1 ((inv_file l).2 h)
def errOf (p : Nat) : Nat := if p = 0 then 110 else 112
/-- What Replay answers. -/
inductive Ans
  | err (c f p : Nat)
  | none
  | story (f : Nat) (s : St)
def pick (s t : St) : Ans := if s.live = true ∧ t.live = true ∧ s.gen = t.gen then .err 112 1 0 else if t.live = true ∧ (s.live = false ∨ s.gen < t.gen) then .story 1 t else if s.live = true then .story 0 s else .none
def rep (l0 l1 : List Nat) : Ans :=
  if 67108864 < l0.length then .err 1 0 0
  else match (file crcN l0).2 with
  | some p => .err (errOf p) 0 p
  | Option.none => if 67108864 < l1.length then .err 1 1 0
    else match (file crcN l1).2 with
    | some p => .err (errOf p) 1 p
    | Option.none => pick (file crcN l0).1 (file crcN l1).1
def AnsP (W : World) (X : Ans) (e : Ending) (w' : World) : Prop :=
  Below W.heap.size W w' ∧ ∃ (t0 t1 t2 t3 t4 t5 : Value) (c f p : Nat), e = .returned (.tuple #[.agg #[t0, t1, t2, t3, t4, t5], .int .i64 (c : Int), .int .i64 (f : Int), .int .i64 (p : Int)]) ∧
  match X with
  | .err c' f' p' => #[t0, t1, t2, t3, t4, t5] = zS ∧ c = c' ∧ f = f' ∧ p = p'
  | .none => #[t0, t1, t2, t3, t4, t5] = #[.int .i64 (-1), .int .i64 0, .int .i64 0, .int .i64 0, .slice Option.none 0 0, .slice Option.none 0 0] ∧ c = 0 ∧ f = 0 ∧ p = 0
  | .story i s => (t0 = .int .i64 (i : Int) ∧ t1 = .int .i64 (s.good : Int) ∧ t2 = .int .i64 (s.gen : Int) ∧ t3 = .int .i64 (s.first : Int) ∧ Ll W.heap.size w' t4 s.base ∧ Lb W.heap.size w' t5 s.batches) ∧ c = 0 ∧ f = 0 ∧ p = 0
set_option maxRecDepth 100000 in
theorem spoiltErrno_any (n : Nat) (W : World) : Calls Tryd.prog 57 #[.int .i64 (n : Int)] W fun e w' => e = .returned (.int .i64 (errOf n : Int)) ∧ w' = W := by
  unfold errOf
  by_cases h : n = 0
  · subst h
    go_enter Tryd.func57, Tryd.ntmps57
    go_wp2
    go_ret
    exact ⟨rfl, rfl⟩
  · rw [if_neg h]
    have h2 : ((n : Int) == 0) = false := by rw [show ((0 : Int)) = ((0 : Nat) : Int) from rfl, beq_int]; simp [h]
    go_enter Tryd.func57, Tryd.ntmps57
    go_wp2
    all_goals go_ret
    all_goals first | exact ⟨rfl, rfl⟩ | (exfalso; simp_all)
end Go.Proofs.YtfimaflglnemdaaDoor
