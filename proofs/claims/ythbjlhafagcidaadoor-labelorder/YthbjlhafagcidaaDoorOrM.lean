/- LabelOrder: the order of the bases. -/
import Derived.Test.YthbjlhafagcidaaDoorPrn
import Derived.Test.YthbjlhafagcidaaDoorUnM
import Derived.Test.YthbjlhafagcidaaDoorRdM
import Derived.Test.YthbjlhafagcidaaDoorSrM
namespace Go.Proofs.YthbjlhafagcidaaDoor
/-- Less, alike, greater. -/
def sg (N M : Nat) : Int := if N < M then -1 else if M < N then 1 else 0
theorem sg_step (B N M n : Nat) (hB : 0 < B) : sg (N % B ^ (n + 1)) (M % B ^ (n + 1)) = if N / B ^ n % B < M / B ^ n % B then -1 else if M / B ^ n % B < N / B ^ n % B then 1 else sg (N % B ^ n) (M % B ^ n) := by
  have hp : 0 < B ^ n := Nat.pow_pos hB
  rw [Nat.mod_pow_succ, Nat.mod_pow_succ]
  have h1 := Nat.mod_lt N hp
  have h2 := Nat.mod_lt M hp
  generalize N % B ^ n = a at *
  generalize M % B ^ n = b at *
  generalize N / B ^ n % B = x at *
  generalize M / B ^ n % B = y at *
  generalize B ^ n = p at *
  unfold sg
  by_cases hxy : x < y
  · rw [if_pos hxy, if_pos]
    have : p * (x + 1) ≤ p * y := Nat.mul_le_mul_left p hxy
    rw [Nat.mul_add, Nat.mul_one] at this
    omega
  · rw [if_neg hxy]
    by_cases hyx : y < x
    · have : p * (y + 1) ≤ p * x := Nat.mul_le_mul_left p hyx
      rw [Nat.mul_add, Nat.mul_one] at this
      rw [if_pos hyx, if_neg (by omega), if_pos (by omega)]
    · have : x = y := by omega
      subst this
      rw [if_neg hyx]
      by_cases h3 : a < b
      · rw [if_pos (by omega), if_pos h3]
      · rw [if_neg (by omega), if_neg h3]
        by_cases h4 : b < a
        · rw [if_pos (by omega), if_pos h4]
        · rw [if_neg (by omega), if_neg h4]
theorem getD_num (l : List Nat) (hb : ∀ x ∈ l, x < 256) (j : Nat) (hj : j < l.length) : l.getD j 0 = num l / 256 ^ j % 256 := by
  have h := byts_num l hb
  have h2 := byts_get (num l) l.length j hj
  rw [h] at h2
  exact h2
theorem cmpH_sg (a b : List Nat) (ha : ∀ x ∈ a, x < 256) (hb : ∀ x ∈ b, x < 256) : ∀ n, n ≤ a.length → n ≤ b.length → cmpH a b n = sg (num a % 256 ^ n) (num b % 256 ^ n)
  | 0, _, _ => by simp [cmpH, sg, Nat.mod_one]
  | n + 1, h1, h2 => by
    rw [sg_step 256 _ _ n (by decide), cmpH, cmpH_sg a b ha hb n (by omega) (by omega), getD_num a ha n (by omega), getD_num b hb n (by omega)]
theorem g32_mono : ∀ i j : Fin 32, g32 i.val < g32 j.val ↔ i.val < j.val := by decide +kernel
theorem g32_lt2 {x y : Nat} (hx : x < 32) (hy : y < 32) : g32 x < g32 y ↔ x < y := g32_mono ⟨x, hx⟩ ⟨y, hy⟩
theorem lex_sg (N M : Nat) : ∀ n, lexC ((List.range n).map fun j => g32 (N / 32 ^ (n - 1 - j) % 32)) ((List.range n).map fun j => g32 (M / 32 ^ (n - 1 - j) % 32)) = sg (N % 32 ^ n) (M % 32 ^ n)
  | 0 => by simp [lexC, sg, Nat.mod_one]
  | n + 1 => by
    have e : ∀ K : Nat, ((List.range (n + 1)).map fun j => g32 (K / 32 ^ (n + 1 - 1 - j) % 32)) = g32 (K / 32 ^ n % 32) :: (List.range n).map fun j => g32 (K / 32 ^ (n - 1 - j) % 32) := by
      intro K
      rw [List.range_succ_eq_map, List.map_cons, List.map_map]
      refine List.cons_eq_cons.2 ⟨by simp, List.map_congr_left fun j hj => ?_⟩
      show g32 (K / 32 ^ (n + 1 - 1 - (j + 1)) % 32) = _
      rw [show n + 1 - 1 - (j + 1) = n - 1 - j by omega]
    rw [e N, e M, lexC, lex_sg N M n, sg_step 32 _ _ n (by decide)]
    have hN := Nat.mod_lt (N / 32 ^ n) (show 0 < 32 by decide)
    have hM := Nat.mod_lt (M / 32 ^ n) (show 0 < 32 by decide)
    simp only [g32_lt2 hN hM, g32_lt2 hM hN]
theorem lex_b32 (h k : List Nat) (hh : ∀ x ∈ h, x < 256) (hk : ∀ x ∈ k, x < 256) (hl : h.length = 20) (kl : k.length = 20) : lexC (b32L h) (b32L k) = cmpH h k 20 := by
  have e : ∀ l : List Nat, (∀ x ∈ l, x < 256) → l.length = 20 → b32L l = (List.range 32).map fun j => g32 (num l / 32 ^ (32 - 1 - j) % 32) := by
    intro l hl2 hl3
    unfold b32L
    rw [hl3]
    show (List.range 32).map _ = _
    refine List.map_congr_left fun j hj => ?_
    show g32 (v32 l (32 - 1 - j)) = _
    rw [v32_num l hl2]
  rw [e h hh hl, e k hk kl, lex_sg, cmpH_sg h k hh hk 20 (by omega) (by omega)]
theorem str_nats (l : List Nat) (hb : ∀ x ∈ l, x < 256) : (str l).data.toList.map (·.toNat) = l := by
  have h1 : (str l).data.toList.length = l.length := str_size l
  apply List.ext_getElem?
  intro i
  by_cases hi : i < l.length
  · have := byt_str l hb i hi
    have h2 : i < (str l).size := by rw [str_size]; exact hi
    have h3 := byt_at (str l) i h2
    rw [this] at h3
    rw [List.getElem?_map, List.getElem?_eq_getElem (by omega), List.getElem?_eq_getElem hi]
    simp only [Option.map_some, Option.some.injEq]
    have h4 : ((str l).data.toList[i]'(by omega)).toNat = ((str l)[i]'h2).toNat := rfl
    rw [h4, h3]
    simp [List.getD, hi]
  · rw [List.getElem?_eq_none (by rw [List.length_map]; omega), List.getElem?_eq_none (by omega)]
theorem base_nats (h : List Nat) (s : ByteArray) : (baseS h s).data.toList.map (·.toNat) = b32L h ++ (45 :: s.data.toList.map (·.toNat)) := by
  unfold baseS
  simp only [ByteArray.data_append, Array.toList_append, List.map_append]
  rw [str_nats _ (b32L_byt h)]
  simp [minus]
theorem base_order (h k : List Nat) (s t : ByteArray) (hh : ∀ x ∈ h, x < 256) (hk : ∀ x ∈ k, x < 256) (hl : h.length = 20) (kl : k.length = 20) : Lib.compareBytes (baseS h s).data.toList (baseS k t).data.toList = cmpV h k s t := by
  rw [lex_bytes, base_nats, base_nats, lex_app _ _ (by rw [b32L_len, b32L_len, hl, kl]), lex_b32 h k hh hk hl kl]
  unfold cmpV
  by_cases e : cmpH h k 20 ≠ 0
  · rw [if_pos e, if_pos e]
  · rw [if_neg e, if_neg e, lexC, if_neg (by omega), if_neg (by omega), lex_bytes]
end Go.Proofs.YthbjlhafagcidaaDoor
