/- The document's own sum: the message padded, then block by block: it is the code's. -/
import Derived.Test.YtmfmmcfdcjhecaaDoorShParts
namespace Go.Proofs.YtmfmmcfdcjhecaaDoor.Sha
open Go.RowKit
/-- The length in bits, eight bytes. -/
def lbN (n : Nat) : List Nat := [8 * n / 2 ^ 56 % 256, 8 * n / 2 ^ 48 % 256, 8 * n / 2 ^ 40 % 256, 8 * n / 2 ^ 32 % 256, 8 * n / 2 ^ 24 % 256, 8 * n / 2 ^ 16 % 256, 8 * n / 2 ^ 8 % 256, 8 * n / 2 ^ 0 % 256]
/-- The message with what comes behind it. -/
def padM (m : List Nat) : List Nat := m ++ (128 :: (List.replicate ((119 - m.length % 64) % 64) 0 ++ lbN m.length))
theorem padM_len (m : List Nat) : (padM m).length = m.length + 9 + (119 - m.length % 64) % 64 := by
  simp only [padM, List.length_append, List.length_cons, List.length_replicate, lbN, List.length_nil]; omega
theorem padM_mod (m : List Nat) : (padM m).length % 64 = 0 := by rw [padM_len]; omega
theorem padM_byt (m : List Nat) (h : Byt m) : Byt (padM m) := by
  intro x hx
  unfold padM at hx
  rcases List.mem_append.1 hx with h1 | h1
  · exact h x h1
  rcases List.mem_cons.1 h1 with h2 | h2
  · omega
  rcases List.mem_append.1 h2 with h3 | h3
  · have := List.eq_of_mem_replicate h3; omega
  · simp only [lbN, List.mem_cons, List.not_mem_nil, or_false] at h3
    omega
def setk (l : List Nat) (n : Nat) : Nat → List Nat
  | 0 => l
  | k + 1 => (setk l n k).set k (8 * n / 2 ^ (56 - 8 * k) % 256)
theorem lenk_app (A l : List Nat) (n : Nat) (hA : A.length = 56) : ∀ k, lenk (A ++ l) n k = A ++ setk l n k
  | 0 => rfl
  | k + 1 => by
    rw [lenk, lenk_app A l n hA k, setk, List.set_append_right _ _ (by omega), show 56 + k - A.length = k by omega]
theorem lenk8 (A : List Nat) (n : Nat) (hA : A.length = 56) : lenk (A ++ List.replicate 8 0) n 8 = A ++ lbN n := by
  rw [lenk_app A _ n hA]
  rfl
theorem absN1 (ks S x : List Nat) : absN ks S x 1 = mixN ks S (x.take 64) := by rw [absN, absN, Nat.mul_zero, List.drop_zero]
theorem absN2 (ks S x : List Nat) : absN ks S x 2 = mixN ks (mixN ks S (x.take 64)) ((x.drop 64).take 64) := by rw [absN, absN1, Nat.mul_one]
theorem rep_add (a b : Nat) : List.replicate (a + b) (0 : Nat) = List.replicate a 0 ++ List.replicate b 0 := List.replicate_append_replicate.symm
theorem sha_ref (ks sn m : List Nat) : sumS (absN ks sn (padM m) ((padM m).length / 64)) = shaN ks sn m := by
  unfold shaN
  congr 1
  obtain ⟨q, hq⟩ : ∃ q, q = m.length / 64 := ⟨_, rfl⟩
  obtain ⟨u, hu⟩ : ∃ u, u = m.length % 64 := ⟨_, rfl⟩
  obtain ⟨t, ht⟩ : ∃ t, t = m.drop (64 * q) := ⟨_, rfl⟩
  have htl : t.length = u := by rw [ht, List.length_drop]; omega
  have hu64 : u < 64 := by omega
  have hpre : absN ks sn (padM m) q = absN ks sn m q := absN_pre ks sn m _ q (by omega)
  have hdrop : (padM m).drop (64 * q) = t ++ (128 :: (List.replicate ((119 - u) % 64) 0 ++ lbN m.length)) := by
    unfold padM
    rw [List.drop_append_of_le_length (by omega), ← ht, ← hu]
  have hlen := padM_len m
  rw [← hu] at hlen
  rw [← hq, ← ht]
  unfold padN
  rw [← hu]
  have htk : t.take u = t := List.take_of_length_le (by omega)
  by_cases h56 : u < 56
  · rw [if_pos h56]
    have hz : (119 - u) % 64 = 55 - u := by omega
    rw [hz] at hlen hdrop
    rw [show (padM m).length / 64 = q + 1 by omega, absN_add, hpre, hdrop]
    rw [absN1]
    have hA : (t ++ 128 :: List.replicate (55 - u) 0).length = 56 := by simp [htl]; omega
    have e1 : t ++ (128 :: (List.replicate (55 - u) 0 ++ lbN m.length)) = (t ++ 128 :: List.replicate (55 - u) 0) ++ lbN m.length := by simp
    have e2 : padR t u = (t ++ 128 :: List.replicate (55 - u) 0) ++ List.replicate 8 0 := by
      unfold padR
      rw [htk, show 63 - u = (55 - u) + 8 by omega, rep_add]
      simp
    rw [e1, List.take_of_length_le (by rw [List.length_append, hA]; simp [lbN]), e2, lenk8 _ _ hA]
  · rw [if_neg h56]
    have hz : (119 - u) % 64 = 119 - u := by omega
    rw [hz] at hlen hdrop
    rw [show (padM m).length / 64 = q + 2 by omega, absN_add, hpre, hdrop]
    have e1 : t ++ (128 :: (List.replicate (119 - u) 0 ++ lbN m.length)) = padR t u ++ (List.replicate 56 0 ++ lbN m.length) := by
      unfold padR
      rw [htk, show 119 - u = (63 - u) + 56 by omega, rep_add]
      simp
    have hp : (padR t u).length = 64 := by unfold padR; rw [htk]; simp [htl]; omega
    rw [e1]
    rw [absN2, List.take_left' hp, List.drop_left' hp, List.take_of_length_le (by simp [lbN])]
    rw [show List.replicate 64 0 = List.replicate 56 0 ++ List.replicate 8 0 from rfl, lenk8 _ _ (by simp)]
end Go.Proofs.YtmfmmcfdcjhecaaDoor.Sha
