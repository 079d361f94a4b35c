/- JournalDevices: the law's sameDisk of equal disks. -/
import Derived.Test.YtdiflmckjpmngaaJvO
namespace Go.Proofs.Ytdiflmckjpmngaa
open Go.RowKit
theorem cv_bl {W : World} {v : Value} {l : List Nat} (h : Bl W v l) : (cvS v).run Try.prog W = .ok (.string (mkS l)) W := by
  obtain ⟨oa, cap, rfl, h1, h2, h3, h4⟩ := h
  cases oa with
  | none =>
    have hl : l = [] := by
      cases l with
      | nil => rfl
      | cons a t =>
        obtain ⟨g, o, e, -⟩ := h4 0 (.int .u8 (a : Int)) (by simp [bs])
        cases e
    subst hl
    unfold cvS
    rw [List.length_nil, run_convert_bytes_string (P := Try.prog) W 25 9 5 none 0 cap Try.underlying25 Try.underlying5 Try.underlying9]
    rfl
  | some a =>
    have := run_convert_bytes_back (P := Try.prog) W 25 9 5 a cap (l.map UInt8.ofNat) Try.underlying25 Try.underlying5 Try.underlying9 (fun j hj => by
      have hj2 : j < l.length := by simpa using hj
      have hx : l[j] < 256 := h3 _ (List.getElem_mem hj2)
      obtain ⟨g, o, e, -, hc⟩ := h4 j (.int .u8 (l[j] : Int)) (by simp [bs, hj2])
      cases e
      rw [Addr.add_mid, hc]
      simp [Nat.mod_eq_of_lt hx])
    rw [List.length_map] at this
    exact this
section
attribute [local go_sem ↓] toCvS
set_option maxRecDepth 100000 in
theorem same_eq {W : World} {a b a' b' : Value} {p q : List Nat} (ha : Bl W a p) (hb : Bl W b q) (ha' : Bl W a' p) (hb' : Bl W b' q) : Calls Try.prog 14 #[.agg #[a, b], .agg #[a', b']] W fun e w' => e = .returned (.bool true) ∧ Below W.heap.size W w' := by
  obtain ⟨W2, hW2⟩ : ∃ W2, (W.alloc (.cells #[a, b] 28)).alloc (.cells #[a', b'] 28) = W2 := ⟨_, rfl⟩
  have b2 : Below W.heap.size W W2 := by rw [← hW2]; exact below2 _ _ _
  have k1 := cv_bl (ha.below b2)
  have k2 := cv_bl (hb.below b2)
  have k3 := cv_bl (ha'.below b2)
  have k4 := cv_bl (hb'.below b2)
  obtain ⟨o1, c1, h1, -⟩ := ha
  obtain ⟨o2, c2, h2, -⟩ := hb
  obtain ⟨o3, c3, h3, -⟩ := ha'
  obtain ⟨o4, c4, h4, -⟩ := hb'
  obtain ⟨n, hn⟩ : ∃ n, p.length = n := ⟨_, rfl⟩
  obtain ⟨m, hm⟩ : ∃ n, q.length = n := ⟨_, rfl⟩
  obtain ⟨S, hS⟩ : ∃ S, mkS p = S := ⟨_, rfl⟩
  obtain ⟨T, hT⟩ : ∃ S, mkS q = S := ⟨_, rfl⟩
  rw [hS] at k1 k3
  rw [hT] at k2 k4
  rw [hn] at h1 h3
  rw [hm] at h2 h4
  subst h1 h2 h3 h4
  have HB : Hid (Below W.heap.size W W2) := b2
  rw [← hW2] at k1 k2 k3 k4
  have HW : Hid (_ = W2) := hW2
  clear hW2 b2 hn hm hS hT
  go_enter Try.func14, Try.ntmps14
  go_wp2_with fail
  go_ret
  exact ⟨rfl, by rw [HW.out]; exact HB.out⟩
end
end Go.Proofs.Ytdiflmckjpmngaa
