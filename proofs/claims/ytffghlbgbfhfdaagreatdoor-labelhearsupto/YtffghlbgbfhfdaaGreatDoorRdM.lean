/- A label's text and what it is read as: the bytes of it. -/
import Derived.Test.YtffghlbgbfhfdaaGreatDoorUnJ
import Derived.Test.YtffghlbgbfhfdaaGreatDoorPrn
namespace Go.Proofs.YtffghlbgbfhfdaaGreatDoor
open Go.RowKit
theorem byt_str (l : List Nat) (hb : Byt l) (i : Nat) (h : i < l.length) : byt (str l) i = l.getD i 0 := by
  rw [← byt_at (str l) i (by rw [str_size]; exact h)]
  have hx := hb _ (List.getElem_mem h)
  have hs : i < (str l).data.size := by rw [show (str l).data.size = l.length from str_size l]; exact h
  show ((str l).data[i]'hs).toNat = _
  simp [str, strOfNums, List.getD, h]
  omega
theorem b32L_byt (h : List Nat) : Byt (b32L h) := by
  intro x hx
  unfold b32L at hx
  obtain ⟨j, _, rfl⟩ := List.mem_map.1 hx
  exact g32_lt ⟨_, d32_lt _ _ _⟩
theorem kn_g32 : ∀ k : Fin 32, kn 32 (g32 k.val) = k.val + 1 := by decide +kernel
theorem b32L_at (h : List Nat) (j : Nat) (hj : j < n32 h.length) : (b32L h).getD j 0 = g32 (v32 h (n32 h.length - 1 - j)) := by
  simp [b32L, List.getD, hj]
theorem un_text (h : List Nat) (hb : Byt h) (hl : h.length = 20) : unE (str (b32L h)) = (0, 0) ∧ byts (unN (str (b32L h))) 20 = h ∧ (str (b32L h)).size = 32 := by
  have hn : n32 h.length = 32 := by rw [hl]; decide
  have hsz : (str (b32L h)).size = 32 := by rw [str_size, b32L_len, hn]
  have hat : ∀ j, j < 32 → byt (str (b32L h)) j = g32 (v32 h (31 - j)) := fun j hj => by
    rw [byt_str _ (b32L_byt h) j (by rw [b32L_len]; omega), b32L_at h j (by omega), hn]
  have hk : ∀ j, j < 32 → kn 32 (byt (str (b32L h)) j) = v32 h (31 - j) + 1 := fun j hj => by
    rw [hat j hj]; exact kn_g32 ⟨v32 h (31 - j), d32_lt _ _ _⟩
  have hfu : ¬ fuN (str (b32L h)) < (str (b32L h)).size := by
    intro hlt
    unfold fuN at hlt
    cases hu : unk (str (b32L h)) (str (b32L h)).size 0 with
    | none => rw [hu] at hlt; simp at hlt
    | some k =>
      have key : ∀ f i k, unk (str (b32L h)) f i = some k → kn 32 (byt (str (b32L h)) k) = 0 := by
        intro f
        induction f with
        | zero => intro i k q; simp [unk] at q
        | succ f ih =>
          intro i k q
          by_cases hi : i < (str (b32L h)).size
          · by_cases h0 : kn 32 (byt (str (b32L h)) i) = 0
            · simp only [unk, hi, if_true, h0] at q
              rw [← Option.some.inj q]; exact h0
            · simp only [unk, hi, if_true, h0, if_false] at q
              exact ih _ _ q
          · simp [unk, hi] at q
      have h1 := key _ _ _ hu
      have h2 := unk_lt _ _ _ _ hu
      rw [hk k (by omega)] at h1
      omega
  have hsp : spareN (str (b32L h)) = 0 := by unfold spareN; rw [hsz]
  refine ⟨?_, ?_, hsz⟩
  · unfold unE
    rw [if_neg hfu, hsp, if_neg (by omega), if_neg (by simp)]
  · have hdv : ∀ i, i < 32 → dvN (str (b32L h)) i = num h / 32 ^ i % 32 := fun i hi => by
      unfold dvN
      rw [hsz, hk (32 - 1 - i) (by omega), Nat.add_sub_cancel, show 31 - (32 - 1 - i) = i by omega, v32_num h hb]
    have hN : unN (str (b32L h)) = num h := by
      unfold unN
      rw [hsz, dsum_mod (num h) _ 32 hdv 32 (Nat.le_refl _)]
      have := num_lt h hb
      rw [hl] at this
      exact Nat.mod_eq_of_lt (Nat.lt_of_lt_of_le this (by decide))
    rw [hN]
    have := byts_num h hb
    rw [hl] at this
    exact this
theorem ext_left (a b : ByteArray) (n : Nat) (h : a.size = n) : (a ++ b).extract 0 n = a := by
  have h' : a.data.size = n := h
  apply ByteArray.ext
  rw [ByteArray.data_extract, ByteArray.data_append, ← h', Array.extract_append]
  simp
theorem ext_right (a b : ByteArray) (n : Nat) (h : a.size = n) : (a ++ b).extract n (a ++ b).size = b := by
  have h' : a.data.size = n := h
  have h2 : (a ++ b).size = n + b.data.size := by rw [ByteArray.size_append, h]; rfl
  apply ByteArray.ext
  rw [h2, ByteArray.data_extract, ByteArray.data_append, Array.extract_append, h']
  have e1 : a.data.extract n (n + b.data.size) = #[] := Array.extract_empty_of_size_le_start (by omega)
  have e2 : b.data.extract (n - n) (n + b.data.size - n) = b.data := by rw [Nat.sub_self, Nat.add_sub_cancel_left]; exact Array.extract_size
  rw [e1, e2]
  simp
end Go.Proofs.YtffghlbgbfhfdaaGreatDoor
