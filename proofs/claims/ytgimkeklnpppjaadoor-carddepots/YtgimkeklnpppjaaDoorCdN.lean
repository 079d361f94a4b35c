/- Numbers without a 0 ahead: what Atoi and Itoa say of them, and digits read one by one. -/
import Derived.Lib.Atoi
import Derived.Lib.AtoiAllCases
import Derived.Lib.AtoiTie
import Derived.Lib.ItoaNum
namespace Go.Proofs.YtgimkeklnpppjaaDoor
open Go.Lib
theorem dv_of {c : UInt8} {d : Nat} (h : digitVal c = some d) : c.toNat = 48 + d ∧ d < 10 := by
  unfold digitVal at h
  split at h
  · have := Option.some.inj h
    omega
  · cases h
theorem dv_mk (d : Nat) (h : d < 10) : digitVal (UInt8.ofNat (48 + d)) = some d := by
  have e : (UInt8.ofNat (48 + d)).toNat = 48 + d := by rw [UInt8.toNat_ofNat']; omega
  unfold digitVal
  rw [e]
  rw [if_pos (by omega)]
  congr 1
  omega
theorem u8_eq {a b : UInt8} (h : a.toNat = b.toNat) : a = b := UInt8.toNat_inj.1 h
theorem decFrom_snoc : ∀ (l : List UInt8) (acc : Nat) (c : UInt8), decFrom acc (l ++ [c]) = (decFrom acc l).bind fun n => (digitVal c).map fun d => n * 10 + d
  | [], acc, c => by
    simp only [List.nil_append, decFrom, Option.bind_some]
    cases digitVal c <;> rfl
  | b :: r, acc, c => by
    simp only [List.cons_append, decFrom]
    cases digitVal b with
    | none => rfl
    | some d => exact decFrom_snoc r _ c
theorem decFrom_le : ∀ (l : List UInt8) (acc n : Nat), decFrom acc l = some n → acc ≤ n
  | [], acc, n, h => by simp [decFrom] at h; omega
  | b :: r, acc, n, h => by
    simp only [decFrom] at h
    cases hd : digitVal b with
    | none => simp [hd] at h
    | some d =>
      simp only [hd] at h
      have := decFrom_le r _ n h
      omega
/-- Digits read give the number whose digits they are. -/
theorem dec_read (n : Nat) : decFrom 0 (decDigits n) = some n := by
  induction n using Nat.strongRecOn with
  | ind n ih =>
    rw [decDigits]
    split
    · rename_i h
      simp only [decFrom, dv_mk n h, Nat.zero_mul, Nat.zero_add]
    · rename_i h
      rw [decFrom_snoc, ih (n / 10) (by omega)]
      simp only [Option.bind_some, dv_mk (n % 10) (by omega), Option.map_some]
      congr 1
      omega
theorem dec_ne (n : Nat) : decDigits n ≠ [] := by
  rw [decDigits]
  split
  · simp
  · simp
theorem dec_head (n : Nat) (hn : 0 < n) : (decDigits n).head? ≠ some 48 := by
  induction n using Nat.strongRecOn with
  | ind n ih =>
    rw [decDigits]
    split
    · rename_i h
      simp only [List.head?_cons, ne_eq, Option.some.injEq]
      intro e
      have := congrArg UInt8.toNat e
      rw [UInt8.toNat_ofNat'] at this
      have h48 : (48 : UInt8).toNat = 48 := rfl
      omega
    · rename_i h
      have hh := ih (n / 10) (by omega) (by omega)
      rw [List.head?_append]
      cases hq : (decDigits (n / 10)).head? with
      | none => exact absurd (List.head?_eq_none_iff.1 hq) (dec_ne _)
      | some x =>
        rw [hq] at hh
        simpa using hh
theorem dec_len : ∀ (k n : Nat), n < 10 ^ (k + 1) → (decDigits n).length ≤ k + 1
  | 0, n, h => by rw [decDigits, dif_pos (by simpa using h)]; simp
  | k + 1, n, h => by
    rw [decDigits]
    split
    · simp
    · have := dec_len k (n / 10) (by rw [Nat.pow_succ] at h; omega)
      simp
      omega
/-- A row of digits without a 0 ahead is the numeral of what it reads. -/
theorem dec_back : ∀ (m : Nat) (l : List UInt8) (n : Nat), l.length = m → l ≠ [] → (l.head? = some 48 → l.length = 1) → decFrom 0 l = some n → decDigits n = l := by
  intro m
  induction m using Nat.strongRecOn with
  | ind m ih =>
    intro l n hm hne hh hd
    obtain ⟨r, c, rfl⟩ : ∃ r c, l = r ++ [c] := ⟨l.dropLast, l.getLast hne, (List.dropLast_concat_getLast hne).symm⟩
    rw [decFrom_snoc] at hd
    cases hr : decFrom 0 r with
    | none => simp [hr] at hd
    | some k =>
      cases hc : digitVal c with
      | none => simp [hr, hc] at hd
      | some d =>
        simp only [hr, hc, Option.bind_some, Option.map_some, Option.some.injEq] at hd
        obtain ⟨hcv, hd10⟩ := dv_of hc
        have hce : c = UInt8.ofNat (48 + d) := u8_eq (by rw [UInt8.toNat_ofNat', hcv]; omega)
        by_cases hrn : r = []
        · subst hrn
          simp only [decFrom, Option.some.injEq] at hr
          subst hr
          rw [decDigits, dif_pos (by omega), hce]
          simp only [List.nil_append, List.cons.injEq, and_true]
          congr 2
          omega
        · have hk : 1 ≤ k := by
            obtain ⟨b, r', rfl⟩ : ∃ b r', r = b :: r' := by
              cases r with
              | nil => exact absurd rfl hrn
              | cons b r' => exact ⟨b, r', rfl⟩
            simp only [decFrom] at hr
            cases hb : digitVal b with
            | none => simp [hb] at hr
            | some e =>
              simp only [hb] at hr
              have h1 := decFrom_le _ _ _ hr
              obtain ⟨hbv, -⟩ := dv_of hb
              have he : e ≠ 0 := by
                intro h0
                have : b = 48 := u8_eq (by rw [hbv, h0]; rfl)
                subst this
                have := hh (by simp)
                simp at this
              omega
          have hi := ih r.length (by simp at hm; omega) r k rfl hrn (fun h48 => by
            have h2 : (r ++ [c]).head? = some 48 := by
              rw [List.head?_append, h48]
              rfl
            have := hh h2
            simp at this
            exact absurd this hrn) hr
          rw [decDigits, dif_neg (by omega), show n / 10 = k by omega, show n % 10 = d by omega, hi, hce]
/-- A text as a number: what the card's readers ask. -/
def nmV (l : List UInt8) : Option Nat := (decFrom 0 l).bind fun n => if n ≤ 1000000 ∧ decDigits n = l then some n else none
theorem nmV_some {l : List UInt8} {n : Nat} (h : nmV l = some n) : n ≤ 1000000 ∧ decDigits n = l := by
  unfold nmV at h
  cases hd : decFrom 0 l with
  | none => simp [hd] at h
  | some k =>
    simp only [hd, Option.bind_some] at h
    split at h
    · rename_i h2
      have := Option.some.inj h
      subst this
      exact h2
    · cases h
theorem nmV_of {l : List UInt8} {n : Nat} (h1 : n ≤ 1000000) (h2 : decDigits n = l) : nmV l = some n := by
  unfold nmV
  rw [← h2, dec_read]
  simp [h1]
theorem dec_sign (n : Nat) : ∀ c ∈ (decDigits n), c.toNat ≠ 43 ∧ c.toNat ≠ 45 := by
  intro c hc
  obtain ⟨k, hk⟩ := List.getElem?_of_mem hc
  obtain ⟨d, hd⟩ := digit_of_decFrom _ 0 n (dec_read n) k c hk
  obtain ⟨h1, h2⟩ := dv_of hd
  omega
/-- Atoi of a number's digits. -/
theorem atoi_dec (n : Nat) (h : n ≤ 1000000) : atoiAll (decDigits n) = .ok (n : Int) := by
  have hl : (decDigits n).length ≤ 7 := dec_len 6 n (by omega)
  rw [atoiAll_short _ (by omega)]
  have : atoi (decDigits n) = some (n : Int) := by
    have hr := dec_read n
    have hs := dec_sign n
    cases hd : decDigits n with
    | nil => exact absurd hd (dec_ne n)
    | cons b r =>
      rw [hd] at hr hs
      have hb := hs b (by simp)
      have h45 : (b == 45) = false := by
        simp only [beq_eq_false_iff_ne, ne_eq]
        intro e
        exact hb.2 (by rw [e]; rfl)
      have h43 : (b == 43) = false := by
        simp only [beq_eq_false_iff_ne, ne_eq]
        intro e
        exact hb.1 (by rw [e]; rfl)
      simp [atoi, h45, h43, decNat, hr]
  rw [this]
  rfl
end Go.Proofs.YtgimkeklnpppjaaDoor
