/- JournalReplays: what a file says, as mathematics. -/
import Derived.WalkKit
namespace Go.Proofs.YtlhpkpedooklnaaDoor.JM
/-- A number, the lowest byte first. -/
def le : List Nat → Nat
  | [] => 0
  | b :: r => b + 256 * le r
theorem le_lt : ∀ (l : List Nat), (∀ x ∈ l, x < 256) → le l < 256 ^ l.length
  | [], _ => by simp [le]
  | b :: r, h => by
    have h1 := le_lt r (fun x hx => h x (List.mem_cons_of_mem _ hx))
    have h2 := h b (List.mem_cons_self ..)
    simp only [le, List.length_cons, Nat.pow_succ]
    omega
theorem le_inj : ∀ (a b : List Nat), (∀ x ∈ a, x < 256) → (∀ x ∈ b, x < 256) → a.length = b.length → le a = le b → a = b
  | [], [], _, _, _, _ => rfl
  | x :: a, y :: b, ha, hb, hl, h => by
    have h1 := ha x (List.mem_cons_self ..)
    have h2 := hb y (List.mem_cons_self ..)
    simp only [le] at h
    have e : x = y := by omega
    subst e
    rw [le_inj a b (fun z hz => ha z (List.mem_cons_of_mem _ hz)) (fun z hz => hb z (List.mem_cons_of_mem _ hz)) (by simpa using hl) (by omega)]
  | [], _ :: _, _, _, hl, _ => by simp at hl
  | _ :: _, [], _, _, hl, _ => by simp at hl
/-- A record that was read. -/
structure Rec where
  kind : Nat
  number : Nat
  body : List Nat
/-- How reading a record ends. -/
inductive Out (α : Type)
  | bad
  | torn
  | got (a : α)
/-- The record with which bytes begin, where one of the rules lets it stand. -/
def recd (crc : List Nat → Nat) (ok : Nat → Nat → Nat → Bool) (rest : List Nat) : Out Rec :=
  if 0 < rest.length ∧ rest.getD 0 0 ≠ 158 then .bad
  else if rest.length < 18 then .torn
  else if ¬ (crc (rest.take 14) = le ((rest.drop 14).take 4)) ∨ ok (rest.getD 1 0) (le ((rest.drop 2).take 8)) (le ((rest.drop 10).take 4)) = false then .bad
  else if rest.length < 22 + le ((rest.drop 10).take 4) then .torn
  else if ¬ (crc ((rest.drop 18).take (le ((rest.drop 10).take 4))) = le ((rest.drop (18 + le ((rest.drop 10).take 4))).take 4)) then .bad
  else .got ⟨rest.getD 1 0, le ((rest.drop 2).take 8), (rest.drop 18).take (le ((rest.drop 10).take 4))⟩
/-- Where one is in a file. -/
structure St where
  headed : Bool
  live : Bool
  good : Nat
  gen : Nat
  first : Nat
  base : List (List Nat)
  batches : List (List (List Nat))
  pending : List (List Nat)
def St.new : St := ⟨false, false, 0, 0, 0, [], [], []⟩
/-- Which records may come. -/
def St.ok (s : St) (kind number length : Nat) : Bool :=
  if s.headed = false then decide (kind = 1 ∧ 1 ≤ number ∧ number ≤ 4611686018427387904 ∧ length = 8)
  else if s.live = false then decide (kind = 2 ∧ number = s.base.length ∧ number < 8192 ∧ length ≤ 2097152) || decide (kind = 3 ∧ number = s.base.length ∧ length = 0)
  else decide (kind = 4 ∧ number = s.pending.length ∧ number < 8192 ∧ length ≤ 2097152) || decide (kind = 5 ∧ number = s.first + s.batches.length ∧ number ≤ 4611686018427387904 ∧ length = 4)
/-- What a record says; none: its body is wrong. -/
def St.take (s : St) (r : Rec) (stop : Nat) : Option St :=
  if s.headed = false then (if 1 ≤ le r.body ∧ le r.body ≤ 4611686018427387904 then some { s with headed := true, gen := r.number, first := le r.body } else none)
  else if s.live = false then (if r.kind = 2 then some { s with base := s.base ++ [r.body] } else some { s with live := true, good := stop })
  else (if r.kind = 4 then some { s with pending := s.pending ++ [r.body] } else (if le r.body = s.pending.length then some { s with batches := s.batches ++ [s.pending], pending := [], good := stop } else none))
/-- One record more. -/
def St.step (crc : List Nat → Nat) (s : St) (p : List Nat) (pos : Nat) : Out (St × Nat) :=
  match recd crc s.ok (p.drop pos) with
  | .bad => .bad
  | .torn => .torn
  | .got r => match s.take r (pos + 22 + r.body.length) with
    | none => .bad
    | some s' => .got (s', pos + 22 + r.body.length)
/-- All that a file says: the state, whether it is spoilt, and where. -/
def run (crc : List Nat → Nat) (p : List Nat) : Nat → St → Nat → St × Option Nat
  | 0, s, _ => (s, none)
  | n + 1, s, pos => if p.length ≤ pos then (s, none) else match s.step crc p pos with
    | .bad => (s, some pos)
    | .torn => (s, none)
    | .got (s', pos') => run crc p n s' pos'
def file (crc : List Nat → Nat) (p : List Nat) : St × Option Nat := run crc p (p.length + 1) St.new 0
theorem recd_got {crc : List Nat → Nat} {ok : Nat → Nat → Nat → Bool} {rest : List Nat} {r : Rec} (h : recd crc ok rest = .got r) :
    22 + r.body.length ≤ rest.length ∧ r.body.length = le ((rest.drop 10).take 4) ∧ r.kind = rest.getD 1 0 ∧ r.number = le ((rest.drop 2).take 8) ∧ r.body = (rest.drop 18).take r.body.length ∧ ok r.kind r.number r.body.length = true := by
  unfold recd at h
  split at h
  · cases h
  split at h
  · cases h
  split at h
  · cases h
  rename_i h3
  split at h
  · cases h
  split at h
  · cases h
  injection h with h
  subst h
  have hl : ((rest.drop 18).take (le ((rest.drop 10).take 4))).length = le ((rest.drop 10).take 4) := by rw [List.length_take, List.length_drop]; omega
  refine ⟨by show 22 + ((rest.drop 18).take _).length ≤ _; rw [hl]; omega, hl, rfl, rfl, ?_, ?_⟩
  · show _ = (rest.drop 18).take ((rest.drop 18).take _).length
    rw [hl]
  · show ok _ _ ((rest.drop 18).take _).length = true
    rw [hl]
    cases hq : ok (rest.getD 1 0) (le ((rest.drop 2).take 8)) (le ((rest.drop 10).take 4)) with
    | true => rfl
    | false => exact absurd (.inr hq) h3
/-- A step goes on. -/
theorem step_next {crc : List Nat → Nat} {s s' : St} {p : List Nat} {pos pos' : Nat} (h : s.step crc p pos = .got (s', pos')) : pos + 22 ≤ pos' ∧ pos' ≤ p.length := by
  unfold St.step at h
  split at h
  · cases h
  · cases h
  · rename_i r hr
    split at h
    · cases h
    · injection h with h
      injection h with h1 h2
      have := (recd_got hr).1
      rw [List.length_drop] at this
      omega
/-- Fuel enough. -/
theorem run_fuel (crc : List Nat → Nat) (p : List Nat) : ∀ (n m : Nat) (s : St) (pos : Nat), p.length < n + pos → p.length < m + pos → run crc p n s pos = run crc p m s pos
  | 0, 0, _, _, _, _ => rfl
  | 0, m + 1, s, pos, h1, _ => by
    simp only [run]
    rw [if_pos (by omega)]
  | n + 1, 0, s, pos, _, h2 => by
    simp only [run]
    rw [if_pos (by omega)]
  | n + 1, m + 1, s, pos, h1, h2 => by
    simp only [run]
    split
    · rfl
    · split
      · rfl
      · rfl
      · rename_i s' pos' hs
        have := step_next hs
        exact run_fuel crc p n m s' pos' (by omega) (by omega)
/-- From a place on. -/
def from_ (crc : List Nat → Nat) (p : List Nat) (s : St) (pos : Nat) : St × Option Nat := run crc p (p.length + 1) s pos
theorem from_step {crc : List Nat → Nat} {p : List Nat} {s s' : St} {pos pos' : Nat} (h : s.step crc p pos = .got (s', pos')) : from_ crc p s pos = from_ crc p s' pos' := by
  have h2 := step_next h
  have hl : ¬ p.length ≤ pos := by omega
  unfold from_
  rw [show run crc p (p.length + 1) s pos = run crc p p.length s' pos' by simp only [run]; rw [if_neg hl, h]]
  exact run_fuel crc p _ _ s' pos' (by omega) (by omega)
theorem from_bad {crc : List Nat → Nat} {p : List Nat} {s : St} {pos : Nat} (hl : pos < p.length) (h : s.step crc p pos = .bad) : from_ crc p s pos = (s, some pos) := by
  unfold from_
  simp only [run]
  rw [if_neg (by omega), h]
theorem from_torn {crc : List Nat → Nat} {p : List Nat} {s : St} {pos : Nat} (h : s.step crc p pos = .torn) : from_ crc p s pos = (s, none) := by
  unfold from_
  simp only [run]
  split
  · rfl
  · rw [h]
theorem from_end {crc : List Nat → Nat} {p : List Nat} {s : St} {pos : Nat} (h : p.length ≤ pos) : from_ crc p s pos = (s, none) := by
  unfold from_
  simp only [run]
  rw [if_pos h]
/-- At the end a record is torn. -/
theorem step_end {crc : List Nat → Nat} {p : List Nat} {s : St} {pos : Nat} (h : p.length ≤ pos) : s.step crc p pos = .torn := by
  have hd : p.drop pos = [] := List.drop_eq_nil_of_le h
  unfold St.step recd
  rw [hd]
  simp
/-- A record is bad only where there is one. -/
theorem step_bad_lt {crc : List Nat → Nat} {p : List Nat} {s : St} {pos : Nat} (h : s.step crc p pos = .bad) : pos < p.length := by
  rcases Nat.lt_or_ge pos p.length with h1 | h1
  · exact h1
  · rw [step_end h1] at h; cases h
end Go.Proofs.YtlhpkpedooklnaaDoor.JM
