namespace Go.Proofs.YtceclpabdfncoaaDoor
def D16 : List Nat := [48, 49, 50, 51, 52, 53, 54, 55, 56, 57, 97, 98, 99, 100, 101, 102]
def D32 : List Nat := [48, 49, 50, 51, 52, 53, 54, 55, 56, 57, 97, 98, 99, 100, 102, 103, 104, 105, 106, 107, 108, 109, 110, 112, 113, 114, 115, 118, 119, 120, 121, 122]
def D64 : List Nat := [65, 66, 67, 68, 69, 70, 71, 72, 73, 74, 75, 76, 77, 78, 79, 80, 81, 82, 83, 84, 85, 86, 87, 88, 89, 90, 97, 98, 99, 100, 101, 102, 103, 104, 105, 106, 107, 108, 109, 110, 111, 112, 113, 114, 115, 116, 117, 118, 119, 120, 121, 122, 48, 49, 50, 51, 52, 53, 54, 55, 56, 57, 43, 47]
def g16 (n : Nat) : Nat := D16.getD n 0
def g32 (n : Nat) : Nat := D32.getD n 0
def g64 (n : Nat) : Nat := D64.getD n 0
/- Base 16. -/
def hexL : List Nat → List Nat
  | [] => []
  | x :: r => g16 (x / 16) :: g16 (x % 16) :: hexL r
theorem hexL_len : ∀ l, (hexL l).length = 2 * l.length
  | [] => rfl
  | x :: r => by simp [hexL, hexL_len r]; omega
theorem hexL_snoc (x : Nat) : ∀ l, hexL (l ++ [x]) = hexL l ++ [g16 (x / 16), g16 (x % 16)]
  | [] => rfl
  | y :: r => by simp [hexL, hexL_snoc x r]
theorem hexL_take (s : List Nat) (k : Nat) (h : k < s.length) : hexL (s.take (k + 1)) = hexL (s.take k) ++ [g16 (s.getD k 0 / 16), g16 (s.getD k 0 % 16)] := by
  rw [List.take_succ_eq_append_getElem h, hexL_snoc]
  simp [List.getD, h]
/- Base 32: the digit number i from the end. -/
def d32 (p q s : Nat) : Nat := (p / 2 ^ s + q * 2 ^ (8 - s)) % 32
def v32 (b : List Nat) (i : Nat) : Nat := d32 (b.getD (5 * i / 8) 0) (b.getD (5 * i / 8 + 1) 0) (5 * i % 8)
def n32 (n : Nat) : Nat := (8 * n + 4) / 5
def b32L (b : List Nat) : List Nat := (List.range (n32 b.length)).map fun j => g32 (v32 b (n32 b.length - 1 - j))
theorem b32L_len (b : List Nat) : (b32L b).length = n32 b.length := by simp [b32L]
theorem d32_lt (p q s : Nat) : d32 p q s < 32 := by unfold d32; omega
/-- What is there behind k rounds: the digits from the end on. -/
def part32 (b : List Nat) (k : Nat) : List Nat := List.replicate (n32 b.length - k) 0 ++ (b32L b).drop (n32 b.length - k)
theorem part32_len (b : List Nat) (k : Nat) : (part32 b k).length = n32 b.length := by
  simp [part32, b32L_len]
theorem part32_zero (b : List Nat) : part32 b 0 = List.replicate (n32 b.length) 0 := by
  simp [part32, b32L_len]
theorem part32_all (b : List Nat) : part32 b (n32 b.length) = b32L b := by simp [part32]
theorem part32_set (b : List Nat) (k : Nat) (h : k < n32 b.length) : (part32 b k).set (n32 b.length - 1 - k) (g32 (v32 b k)) = part32 b (k + 1) := by
  apply List.ext_getElem
  · rw [List.length_set, part32_len, part32_len]
  · intro i h1 h2
    rw [List.length_set, part32_len] at h1
    rw [List.getElem_set]
    split
    · rename_i he
      subst he
      simp only [part32]
      rw [List.getElem_append_right (by simp; omega)]
      simp [b32L]
      congr 2
      omega
    · rename_i he
      simp only [part32]
      by_cases hi : i < n32 b.length - (k + 1)
      · rw [List.getElem_append_left (by simp; omega), List.getElem_append_left (by simp; omega)]; simp
      · rw [List.getElem_append_right (by simp; omega), List.getElem_append_right (by simp; omega)]
        simp [b32L]
        congr 2
        omega
/- The code's digit. -/
theorem code32 (p q s : Nat) (hs : s < 8) (hp : p < 256) : ((p / 2 ^ s) ||| (q * 2 ^ (8 - s) % 256)) % 32 = d32 p q s := by
  have h1 : p / 2 ^ s < 2 ^ (8 - s) := by
    rw [Nat.div_lt_iff_lt_mul (by exact Nat.two_pow_pos s), ← Nat.pow_add]
    rw [show 8 - s + s = 8 by omega]; exact hp
  have h2 : q * 2 ^ (8 - s) % 256 = 2 ^ (8 - s) * (q % 2 ^ s) := by
    have : (256 : Nat) = 2 ^ s * 2 ^ (8 - s) := by rw [← Nat.pow_add, show s + (8 - s) = 8 by omega]
    rw [this, Nat.mul_mod_mul_right, Nat.mul_comm]
  rw [h2, Nat.or_comm, ← Nat.two_pow_add_eq_or_of_lt h1, ← h2]
  unfold d32
  omega
theorem code32z (p s : Nat) : (p / 2 ^ s) % 32 = d32 p 0 s := by simp [d32]
/- The document's digit: five bits. -/
def bitN (b : List Nat) (k : Nat) : Nat := b.getD (k / 8) 0 / 2 ^ (k % 8) % 2
def sum32 (b : List Nat) (i : Nat) : Nat → Nat
  | 0 => 0
  | j + 1 => sum32 b i j + bitN b (5 * i + j) * 2 ^ j
theorem bits5 (p q s : Nat) (hs : s < 8) (hp : p < 256) (f : Nat → Nat) (hf : ∀ j, j < 5 → f j = if s + j < 8 then p / 2 ^ (s + j) % 2 else q / 2 ^ (s + j - 8) % 2) :
    f 0 * 2 ^ 0 + f 1 * 2 ^ 1 + f 2 * 2 ^ 2 + f 3 * 2 ^ 3 + f 4 * 2 ^ 4 = d32 p q s := by
  rw [hf 0 (by omega), hf 1 (by omega), hf 2 (by omega), hf 3 (by omega), hf 4 (by omega)]
  unfold d32
  have : s = 0 ∨ s = 1 ∨ s = 2 ∨ s = 3 ∨ s = 4 ∨ s = 5 ∨ s = 6 ∨ s = 7 := by omega
  rcases this with rfl | rfl | rfl | rfl | rfl | rfl | rfl | rfl <;> simp <;> omega
theorem getD_lt {l : List Nat} (h : ∀ b ∈ l, b < 256) (i : Nat) : l.getD i 0 < 256 := by
  by_cases hi : i < l.length
  · have : l.getD i 0 = l[i] := by simp [List.getD, hi]
    rw [this]; exact h _ (List.getElem_mem hi)
  · simp [List.getD, hi]
theorem sum32_all (b : List Nat) (hb : ∀ x ∈ b, x < 256) (i : Nat) : sum32 b i 5 = v32 b i := by
  have := bits5 (b.getD (5 * i / 8) 0) (b.getD (5 * i / 8 + 1) 0) (5 * i % 8) (Nat.mod_lt _ (by omega)) (getD_lt hb _) (fun j => bitN b (5 * i + j)) (fun j hj => by
    unfold bitN
    split
    · rw [show (5 * i + j) / 8 = 5 * i / 8 by omega, show (5 * i + j) % 8 = 5 * i % 8 + j by omega]
    · rw [show (5 * i + j) / 8 = 5 * i / 8 + 1 by omega, show (5 * i + j) % 8 = 5 * i % 8 + j - 8 by omega])
  unfold v32
  rw [← this]
  simp [sum32]
theorem bitN_lt (b : List Nat) (k : Nat) : bitN b k < 2 := by unfold bitN; omega
theorem sum32_lt (b : List Nat) (i : Nat) : ∀ j, sum32 b i j < 2 ^ j
  | 0 => by simp [sum32]
  | j + 1 => by
    have h1 := sum32_lt b i j
    have h2 := bitN_lt b (5 * i + j)
    have h3 : bitN b (5 * i + j) * 2 ^ j ≤ 1 * 2 ^ j := Nat.mul_le_mul_right _ (by omega)
    simp only [sum32, Nat.pow_succ]; omega
/- Base 64. -/
def ch64 (a b c h : Nat) : List Nat :=
  [g64 (a / 4), g64 (a % 4 * 16 + b / 16), if 2 ≤ h then g64 (b % 16 * 4 + c / 64) else 61, if 3 ≤ h then g64 (c % 64) else 61]
def b64L : List Nat → List Nat
  | [] => []
  | [a] => ch64 a 0 0 1
  | [a, b] => ch64 a b 0 2
  | a :: b :: c :: r => ch64 a b c 3 ++ b64L r
theorem ch64_len (a b c h : Nat) : (ch64 a b c h).length = 4 := rfl
theorem b64L_app (x y : List Nat) (n : Nat) (h : x.length = 3 * n) : b64L (x ++ y) = b64L x ++ b64L y := by
  induction n generalizing x with
  | zero => have : x = [] := List.length_eq_zero_iff.1 h; subst this; rfl
  | succ n ih =>
    match x, h with
    | a :: b :: c :: r, h =>
      simp only [List.cons_append, b64L, ih r (by simp at h; omega), List.append_assoc]
theorem b64L_len : ∀ (n : Nat) (l : List Nat), l.length ≤ n → (b64L l).length = (l.length + 2) / 3 * 4
  | _, [], _ => rfl
  | _, [a], _ => by simp [b64L, ch64_len]
  | _, [a, b], _ => by simp [b64L, ch64_len]
  | 0, a :: b :: c :: r, h => by simp at h
  | n + 1, a :: b :: c :: r, h => by
    have := b64L_len n r (by simp at h; omega)
    simp only [b64L, List.length_append, ch64_len, this, List.length_cons]
    omega
theorem take_drop3 (l : List Nat) (i : Nat) (h : i + 3 ≤ l.length) : (l.drop i).take 3 = [l.getD i 0, l.getD (i + 1) 0, l.getD (i + 2) 0] := by
  apply List.ext_getElem
  · simp; omega
  · intro j h1 h2
    have hj : j < 3 := by simpa using h2
    have : j = 0 ∨ j = 1 ∨ j = 2 := by omega
    rcases this with rfl | rfl | rfl <;> simp [List.getD, List.getElem?_eq_getElem (show i + 2 < l.length by omega), List.getElem?_eq_getElem (show i + 1 < l.length by omega), List.getElem?_eq_getElem (show i < l.length by omega)]
theorem take_add3 (l : List Nat) (i : Nat) (h : i + 3 ≤ l.length) : l.take (i + 3) = l.take i ++ [l.getD i 0, l.getD (i + 1) 0, l.getD (i + 2) 0] := by
  rw [List.take_add, take_drop3 l i h]
theorem b64L_step (l : List Nat) (k : Nat) (h : 3 * k + 3 ≤ l.length) : b64L (l.take (3 * k + 3)) = b64L (l.take (3 * k)) ++ ch64 (l.getD (3 * k) 0) (l.getD (3 * k + 1) 0) (l.getD (3 * k + 2) 0) 3 := by
  rw [take_add3 l _ h, b64L_app _ _ k (by rw [List.length_take]; omega)]
  simp [b64L]
/-- The last chunk. -/
theorem b64L_last (l : List Nat) (k h : Nat) (h1 : 3 * k + h = l.length) (h2 : 1 ≤ h) (h3 : h ≤ 3) : b64L l = b64L (l.take (3 * k)) ++ ch64 (l.getD (3 * k) 0) (l.getD (3 * k + 1) 0) (l.getD (3 * k + 2) 0) h := by
  conv => lhs; rw [← List.take_append_drop (3 * k) l]
  rw [b64L_app _ _ k (by rw [List.length_take]; omega)]
  congr 1
  have hd : (l.drop (3 * k)).length = h := by rw [List.length_drop]; omega
  have e : ∀ j, l.getD (3 * k + j) 0 = (l.drop (3 * k)).getD j 0 := fun j => by simp [List.getD, List.getElem?_drop]
  have e0 := e 0
  rw [Nat.add_zero] at e0
  rw [e0, e 1, e 2]
  match l.drop (3 * k), hd with
  | [], hd => simp at hd; omega
  | [a], hd => simp at hd; subst hd; rfl
  | [a, b], hd => simp at hd; subst hd; rfl
  | [a, b, c], hd => simp at hd; subst hd; simp [b64L]
  | a :: b :: c :: d :: r, hd => simp at hd; omega
end Go.Proofs.YtceclpabdfncoaaDoor
