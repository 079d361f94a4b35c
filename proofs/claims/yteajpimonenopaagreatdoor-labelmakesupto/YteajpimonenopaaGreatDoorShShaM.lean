/- SHA-256's words, on natural numbers. -/
namespace Go.Proofs.YteajpimonenopaaGreatDoor.Sha
/-- A word turned right by n places. -/
def ror (x n : Nat) : Nat := (x * 2 ^ (32 - n) % 4294967296) ||| (x / 2 ^ n)
theorem ror_lt (x n : Nat) (hx : x < 4294967296) : ror x n < 4294967296 := by
  unfold ror
  exact Nat.or_lt_two_pow (n := 32) (Nat.mod_lt _ (by decide)) (Nat.lt_of_le_of_lt (Nat.div_le_self _ _) hx)
/-- The XOR of a word turned right in three ways. -/
def tri (x i j k : Nat) : Nat := ror x i ^^^ ror x j ^^^ ror x k
theorem xor_lt {a b : Nat} (ha : a < 4294967296) (hb : b < 4294967296) : a ^^^ b < 4294967296 := Nat.xor_lt_two_pow (n := 32) ha hb
theorem and_lt {a b : Nat} (ha : a < 4294967296) : a &&& b < 4294967296 := Nat.lt_of_le_of_lt Nat.and_le_left ha
theorem tri_lt (x i j k : Nat) (hx : x < 4294967296) : tri x i j k < 4294967296 := xor_lt (xor_lt (ror_lt _ _ hx) (ror_lt _ _ hx)) (ror_lt _ _ hx)
/-- Two words added. -/
def add (a b : Nat) : Nat := (a + b) % 4294967296
theorem add_lt (a b : Nat) : add a b < 4294967296 := Nat.mod_lt _ (by decide)
/-- A list of words. -/
def Wrd (l : List Nat) : Prop := ∀ x ∈ l, x < 4294967296
theorem wrd_get {l : List Nat} (h : Wrd l) (i : Nat) : l.getD i 0 < 4294967296 := by
  by_cases hi : i < l.length
  · have : l.getD i 0 = l[i] := by simp [List.getD, hi]
    rw [this]; exact h _ (List.getElem_mem hi)
  · simp [List.getD, hi]
theorem wrd_set {l : List Nat} (h : Wrd l) (i v : Nat) (hv : v < 4294967296) : Wrd (l.set i v) := by
  intro x hx
  rcases List.mem_or_eq_of_mem_set hx with h' | h'
  · exact h x h'
  · omega
/-- The word of four bytes. -/
def word (blk : List Nat) (t : Nat) : Nat := ((blk.getD (4 * t) 0 * 16777216 ||| blk.getD (4 * t + 1) 0 * 65536) ||| blk.getD (4 * t + 2) 0 * 256) ||| blk.getD (4 * t + 3) 0
/-- Behind k rounds of the first loop. -/
def w16 (blk : List Nat) : Nat → List Nat
  | 0 => List.replicate 64 0
  | k + 1 => (w16 blk k).set k (word blk k)
theorem w16_len (blk : List Nat) : ∀ k, (w16 blk k).length = 64
  | 0 => by simp [w16]
  | k + 1 => by simp [w16, w16_len blk k]
/-- The word that is made of earlier ones. -/
def sg (a i j d : Nat) : Nat := ror a i ^^^ ror a j ^^^ a / d
def nextw (l : List Nat) (t : Nat) : Nat := add (add (add (l.getD (t - 16) 0) (sg (l.getD (t - 15) 0) 7 18 8)) (l.getD (t - 7) 0)) (sg (l.getD (t - 2) 0) 17 19 1024)
theorem sg_lt (a i j d : Nat) (ha : a < 4294967296) : sg a i j d < 4294967296 := xor_lt (xor_lt (ror_lt _ _ ha) (ror_lt _ _ ha)) (Nat.lt_of_le_of_lt (Nat.div_le_self _ _) ha)
/-- Behind k rounds of the second loop. -/
def w64 (blk : List Nat) : Nat → List Nat
  | 0 => w16 blk 16
  | k + 1 => (w64 blk k).set (16 + k) (nextw (w64 blk k) (16 + k))
theorem w64_len (blk : List Nat) : ∀ k, (w64 blk k).length = 64
  | 0 => w16_len blk 16
  | k + 1 => by rw [w64, List.length_set, w64_len blk k]
theorem word_lt (blk : List Nat) (hb : ∀ b ∈ blk, b < 256) (t : Nat) : word blk t < 4294967296 := by
  have g : ∀ i, blk.getD i 0 < 256 := fun i => by
    by_cases hi : i < blk.length
    · have : blk.getD i 0 = blk[i] := by simp [List.getD, hi]
      rw [this]; exact hb _ (List.getElem_mem hi)
    · simp [List.getD, hi]
  unfold word
  have h0 := g (4 * t); have h1 := g (4 * t + 1); have h2 := g (4 * t + 2); have h3 := g (4 * t + 3)
  exact Nat.or_lt_two_pow (n := 32) (Nat.or_lt_two_pow (n := 32) (Nat.or_lt_two_pow (n := 32) (by omega) (by omega)) (by omega)) (by omega)
theorem w16_wrd (blk : List Nat) (hb : ∀ b ∈ blk, b < 256) : ∀ k, Wrd (w16 blk k)
  | 0 => fun x hx => by have : x = 0 := List.eq_of_mem_replicate hx; omega
  | k + 1 => wrd_set (w16_wrd blk hb k) _ _ (word_lt blk hb k)
theorem w64_wrd (blk : List Nat) (hb : ∀ b ∈ blk, b < 256) : ∀ k, Wrd (w64 blk k)
  | 0 => w16_wrd blk hb 16
  | k + 1 => wrd_set (w64_wrd blk hb k) _ _ (add_lt _ _)
/-- A block's 64 words. -/
def sched (blk : List Nat) : List Nat := w64 blk 48
theorem sched_len (blk : List Nat) : (sched blk).length = 64 := w64_len blk 48
theorem sched_wrd (blk : List Nat) (hb : ∀ b ∈ blk, b < 256) : Wrd (sched blk) := w64_wrd blk hb 48
/-- One round: eight words. -/
structure St where
  a : Nat
  b : Nat
  c : Nat
  d : Nat
  e : Nat
  f : Nat
  g : Nat
  h : Nat
def St.ok (s : St) : Prop := s.a < 4294967296 ∧ s.b < 4294967296 ∧ s.c < 4294967296 ∧ s.d < 4294967296 ∧ s.e < 4294967296 ∧ s.f < 4294967296 ∧ s.g < 4294967296 ∧ s.h < 4294967296
def xs (s : St) (k w : Nat) : Nat := add (add (add (add s.h (tri s.e 6 11 25)) ((s.e &&& s.f) ^^^ ((4294967295 - s.e) &&& s.g))) k) w
def ys (s : St) : Nat := add (tri s.a 2 13 22) (((s.a &&& s.b) ^^^ (s.a &&& s.c)) ^^^ (s.b &&& s.c))
def round (s : St) (k w : Nat) : St := ⟨add (xs s k w) (ys s), s.a, s.b, s.c, add s.d (xs s k w), s.e, s.f, s.g⟩
theorem round_ok (s : St) (k w : Nat) (h : s.ok) : (round s k w).ok :=
  ⟨add_lt _ _, h.1, h.2.1, h.2.2.1, add_lt _ _, h.2.2.2.2.1, h.2.2.2.2.2.1, h.2.2.2.2.2.2.1⟩
/-- Behind k rounds. -/
def rounds (ks ws : List Nat) (s : St) : Nat → St
  | 0 => s
  | k + 1 => round (rounds ks ws s k) (ks.getD k 0) (ws.getD k 0)
theorem rounds_ok (ks ws : List Nat) (s : St) (h : s.ok) : ∀ k, (rounds ks ws s k).ok
  | 0 => h
  | k + 1 => round_ok _ _ _ (rounds_ok ks ws s h k)
def stOf (l : List Nat) : St := ⟨l.getD 0 0, l.getD 1 0, l.getD 2 0, l.getD 3 0, l.getD 4 0, l.getD 5 0, l.getD 6 0, l.getD 7 0⟩
theorem stOf_ok (l : List Nat) (h : Wrd l) : (stOf l).ok := ⟨wrd_get h _, wrd_get h _, wrd_get h _, wrd_get h _, wrd_get h _, wrd_get h _, wrd_get h _, wrd_get h _⟩
/-- The state behind one more block, from what the 64 rounds leave. -/
def joinS (l : List Nat) (s : St) : List Nat := [add (l.getD 0 0) s.a, add (l.getD 1 0) s.b, add (l.getD 2 0) s.c, add (l.getD 3 0) s.d, add (l.getD 4 0) s.e, add (l.getD 5 0) s.f, add (l.getD 6 0) s.g, add (l.getD 7 0) s.h]
def mixN (ks l blk : List Nat) : List Nat := joinS l (rounds ks (sched blk) (stOf l) 64)
theorem mixN_len (ks l blk : List Nat) : (mixN ks l blk).length = 8 := rfl
theorem mixN_wrd (ks l blk : List Nat) : Wrd (mixN ks l blk) := by
  intro x hx
  simp only [mixN, joinS, List.mem_cons, List.not_mem_nil, or_false] at hx
  rcases hx with h | h | h | h | h | h | h | h <;> (rw [h]; exact add_lt _ _)
end Go.Proofs.YteajpimonenopaaGreatDoor.Sha
