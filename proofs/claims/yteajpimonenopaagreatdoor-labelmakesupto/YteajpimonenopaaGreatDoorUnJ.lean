/- Several texts in one: Un, UnB. -/
import Derived.Test.YteajpimonenopaaGreatDoorUnM
import Derived.Test.YteajpimonenopaaGreatDoorSl
import Derived.Test.YteajpimonenopaaGreatDoorNames
import Derived.Laws.CopyOwn
/- UnBase32: the code's. -/
namespace Go.Proofs.YteajpimonenopaaGreatDoor
open Go.RowKit
/-- Which digit a byte is, counted from 1; 0: none. -/
def kn (m c : Nat) : Nat := if D32.idxOf c < m then D32.idxOf c + 1 else 0
def K32 (m : Nat) : List Nat := (List.range 256).map (kn m)
theorem K32_len (m : Nat) : (K32 m).length = 256 := by simp [K32]
theorem K32_get (m c : Nat) (h : c < 256) : (K32 m).getD c 0 = kn m c := by simp [K32, List.getD, h]
theorem K32_step : ∀ k : Fin 32, (K32 k.val).set (g32 k.val) (k.val + 1) = K32 (k.val + 1) := by decide +kernel
theorem K32_zero : K32 0 = List.replicate 256 0 := by decide +kernel
theorem g32_lt : ∀ k : Fin 32, g32 k.val < 256 := by decide +kernel
theorem kn_le : ∀ c : Fin 256, kn 32 c.val ≤ 32 := by decide +kernel
def unk (s : ByteArray) : Nat → Nat → Option Nat
  | 0, _ => none
  | f + 1, i => if i < s.size then (if kn 32 (byt s i) = 0 then some i else unk s f (i + 1)) else none
theorem unk_end (s : ByteArray) (f i : Nat) (h : ¬ i < s.size) : unk s f i = none := by cases f <;> simp [unk, h]
def fuN (s : ByteArray) : Nat := (unk s s.size 0).getD s.size
end Go.Proofs.YteajpimonenopaaGreatDoor

/- UnBase32: the code's, whole. -/
namespace Go.Proofs.YteajpimonenopaaGreatDoor
open Go.RowKit
/-- A digit's value, counted from the end. -/
def dvN (s : ByteArray) (i : Nat) : Nat := kn 32 (byt s (s.size - 1 - i)) - 1
def unN (s : ByteArray) : Nat := dsum (dvN s) s.size
def spareN (s : ByteArray) : Nat := 5 * s.size - 8 * (5 * s.size / 8)
/-- The error and its place. -/
def unE (s : ByteArray) : Nat × Nat :=
  if fuN s < s.size then (10, fuN s) else if 5 ≤ spareN s then (3, s.size) else if 0 < spareN s ∧ ¬ (kn 32 (byt s 0) - 1) / 2 ^ (5 - spareN s) = 0 then (11, 0) else (0, 0)
theorem unk_none (s : ByteArray) : ∀ f i, unk s f i = none → ∀ j, i ≤ j → j < i + f → j < s.size → ¬ kn 32 (byt s j) = 0
  | 0, i, _, j, h1, h2, _ => by omega
  | f + 1, i, h, j, h1, h2, h3 => by
    by_cases hi : i < s.size
    · by_cases hk : kn 32 (byt s i) = 0
      · simp [unk, hi, hk] at h
      · simp only [unk, hi, if_true, hk, if_false] at h
        by_cases he : j = i
        · subst he; exact hk
        · exact unk_none s f (i + 1) h j (by omega) (by omega) h3
    · omega
theorem unk_lt (s : ByteArray) : ∀ f i k, unk s f i = some k → k < s.size
  | 0, i, k, h => by simp [unk] at h
  | f + 1, i, k, h => by
    by_cases hi : i < s.size
    · by_cases hk : kn 32 (byt s i) = 0
      · simp only [unk, hi, if_true, hk] at h
        have := Option.some.inj h
        omega
      · simp only [unk, hi, if_true, hk, if_false] at h
        exact unk_lt s f (i + 1) k h
    · simp [unk, hi] at h
theorem fuN_le (s : ByteArray) : fuN s ≤ s.size := by
  unfold fuN
  cases h : unk s s.size 0 with
  | none => simp
  | some k => have := unk_lt s _ _ _ h; simp; omega
theorem fuN_all (s : ByteArray) (h : ¬ fuN s < s.size) (j : Nat) (hj : j < s.size) : ∃ v, kn 32 (byt s j) = v + 1 := by
  have hn : unk s s.size 0 = none := by
    cases hu : unk s s.size 0 with
    | none => rfl
    | some k =>
      have := unk_lt s _ _ _ hu
      unfold fuN at h
      rw [hu] at h
      simp at h
      omega
  have := unk_none s _ _ hn j (by omega) (by omega) hj
  exact ⟨kn 32 (byt s j) - 1, by omega⟩
theorem dv_lt (s : ByteArray) (i : Nat) : dvN s i < 32 := by
  have := kn_le ⟨byt s (s.size - 1 - i), byt_lt _ _⟩
  unfold dvN
  simp only at this
  omega
theorem byts_set1 (N v k n : Nat) (hN : N < 32 ^ k) (hn : 5 * k / 8 + 1 = n) :
    (byts N n).set (5 * k / 8) ((N / 256 ^ (5 * k / 8) % 256) ||| (v * 2 ^ (5 * k % 8) % 256)) = byts (N + v * 32 ^ k) n := by
  apply List.ext_getElem
  · rw [List.length_set, byts_len, byts_len]
  · intro j h1 h2
    rw [List.length_set, byts_len] at h1
    rw [List.getElem_set]
    simp only [byts, List.getElem_map, List.getElem_range]
    split
    · rename_i he
      subst he
      rw [byts_step_at N v k hN]
    · rw [byts_step_lo N v k j (by omega)]
theorem byts_set2 (N v k n : Nat) (hN : N < 32 ^ k) (hv : v < 32) :
    ((byts N n).set (5 * k / 8) ((N / 256 ^ (5 * k / 8) % 256) ||| (v * 2 ^ (5 * k % 8) % 256))).set (5 * k / 8 + 1) (v / 2 ^ (8 - 5 * k % 8)) = byts (N + v * 32 ^ k) n := by
  apply List.ext_getElem
  · rw [List.length_set, List.length_set, byts_len, byts_len]
  · intro j h1 h2
    rw [List.length_set, List.length_set, byts_len] at h1
    rw [List.getElem_set, List.getElem_set]
    simp only [byts, List.getElem_map, List.getElem_range]
    split
    · rename_i he
      subst he
      rw [(byts_step_next N v k hN hv).1]
    · split
      · rename_i he
        subst he
        rw [byts_step_at N v k hN]
      · by_cases hj : j < 5 * k / 8
        · rw [byts_step_lo N v k j hj]
        · rw [byts_step_hi N v k j hN hv (by omega)]
/-- The store of a whole array, kept shut. -/
def storeR (ty : Nat) (p v : Value) : Sem Unit := Instr.storeAt ty p v
/-- What UnBase32 answers. -/
def UnPost (s : ByteArray) (w : World) (e : Ending) (w' : World) : Prop :=
  Below w.heap.size w w' ∧ ∃ v, e = .returned (.tuple #[v, .int .i64 (((unE s).1 : Nat) : Int), .int .i64 (((unE s).2 : Nat) : Int)]) ∧
    if (unE s).1 = 0 then ∃ g, v = .slice (some ⟨g, 0, none⟩) (5 * s.size / 8) (5 * s.size / 8) ∧ w.heap.size ≤ g ∧ w'.heap[g]? = some (.cells (bs (byts (unN s) (5 * s.size / 8))) 5 (0, 0)) else v = .slice none 0 0
end Go.Proofs.YteajpimonenopaaGreatDoor
