/- The journal's rows: the law's sameDisk of equal disks. -/
import Derived.Test.YtfimaflglnemdaaDoorJqC
namespace Go.Proofs.YtfimaflglnemdaaDoor
open Go.RowKit
open JM
set_option maxRecDepth 20000
attribute [local go_sem ↓] toCvS in
set_option maxRecDepth 100000 in
theorem same_eq {W : World} {a b a' b' : Value} {p q : List Nat} (ha : Bl W a p) (hb : Bl W b q) (ha' : Bl W a' p) (hb' : Bl W b' q) : Calls Tryd.prog 26 #[.agg #[a, b], .agg #[a', b']] W fun e w' => e = .returned (.bool true) ∧ Below W.heap.size W w' := by
  obtain ⟨W2, hW2⟩ : ∃ W2, (W.alloc (.cells #[a, b] 26)).alloc (.cells #[a', b'] 26) = W2 := ⟨_, rfl⟩
  have b2 : Below W.heap.size W W2 := by rw [← hW2]; exact below2 _ _ _
  have k1 := cv_bl (ha.below b2)
  have k2 := cv_bl (hb.below b2)
  have k3 := cv_bl (ha'.below b2)
  have k4 := cv_bl (hb'.below b2)
  obtain ⟨o1, c1, h1, -⟩ := ha
  obtain ⟨o2, c2, h2, -⟩ := hb
  obtain ⟨o3, c3, h3, -⟩ := ha'
  obtain ⟨o4, c4, h4, -⟩ := hb'
  obtain ⟨n, hn⟩ : ∃ n, p.length = n := ⟨_, rfl⟩
  obtain ⟨m, hm⟩ : ∃ n, q.length = n := ⟨_, rfl⟩
  obtain ⟨S, hS⟩ : ∃ S, mkS p = S := ⟨_, rfl⟩
  obtain ⟨T, hT⟩ : ∃ S, mkS q = S := ⟨_, rfl⟩
  rw [hS] at k1 k3
  rw [hT] at k2 k4
  rw [hn] at h1 h3
  rw [hm] at h2 h4
  subst h1 h2 h3 h4
  have HB : Hid (Below W.heap.size W W2) := b2
  rw [← hW2] at k1 k2 k3 k4
  have HW : Hid (_ = W2) := hW2
  clear hW2 b2 hn hm hS hT
  go_enter Tryd.func26, Tryd.ntmps26
  go_wp2_with fail
  go_ret
  exact ⟨rfl, by rw [HW.out]; exact HB.out⟩
end Go.Proofs.YtfimaflglnemdaaDoor
