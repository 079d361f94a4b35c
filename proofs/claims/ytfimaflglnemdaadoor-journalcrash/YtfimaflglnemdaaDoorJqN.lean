/- Several texts in one: JzS, JzC. -/
import Derived.Test.YtfimaflglnemdaaDoorJqC
import Derived.Test.YtfimaflglnemdaaDoorJqM
import Derived.Test.YtfimaflglnemdaaDoorJdW
import Derived.Test.YtfimaflglnemdaaDoorJyA
/- The journal's rows: the law's sameDisk of equal disks. -/
namespace Go.Proofs.YtfimaflglnemdaaDoor
open Go.RowKit
open JM
set_option maxRecDepth 20000
attribute [local go_sem ↓] toCvS in
set_option maxRecDepth 100000 in
theorem same_eq {W : World} {a b a' b' : Value} {p q : List Nat} (ha : Bl W a p) (hb : Bl W b q) (ha' : Bl W a' p) (hb' : Bl W b' q) : Calls Tryd.prog 26 #[.agg #[a, b], .agg #[a', b']] W fun e w' => e = .returned (.bool true) ∧ Below W.heap.size W w' := by
  obtain ⟨W2, hW2⟩ : ∃ W2, (W.alloc (.cells #[a, b] 26)).alloc (.cells #[a', b'] 26) = W2 := ⟨_, rfl⟩
  have b2 : Below W.heap.size W W2 := by rw [← hW2]; exact below2 _ _ _
  have k1 := cv_bl (ha.below b2)
  have k2 := cv_bl (hb.below b2)
  have k3 := cv_bl (ha'.below b2)
  have k4 := cv_bl (hb'.below b2)
  obtain ⟨o1, c1, h1, -⟩ := ha
  obtain ⟨o2, c2, h2, -⟩ := hb
  obtain ⟨o3, c3, h3, -⟩ := ha'
  obtain ⟨o4, c4, h4, -⟩ := hb'
  obtain ⟨n, hn⟩ : ∃ n, p.length = n := ⟨_, rfl⟩
  obtain ⟨m, hm⟩ : ∃ n, q.length = n := ⟨_, rfl⟩
  obtain ⟨S, hS⟩ : ∃ S, mkS p = S := ⟨_, rfl⟩
  obtain ⟨T, hT⟩ : ∃ S, mkS q = S := ⟨_, rfl⟩
  rw [hS] at k1 k3
  rw [hT] at k2 k4
  rw [hn] at h1 h3
  rw [hm] at h2 h4
  subst h1 h2 h3 h4
  have HB : Hid (Below W.heap.size W W2) := b2
  rw [← hW2] at k1 k2 k3 k4
  have HW : Hid (_ = W2) := hW2
  clear hW2 b2 hn hm hS hT
  go_enter Tryd.func26, Tryd.ntmps26
  go_wp2_with fail
  go_ret
  exact ⟨rfl, by rw [HW.out]; exact HB.out⟩
end Go.Proofs.YtfimaflglnemdaaDoor

/- The journal's rows: what a crash leaves at a moment: the mathematics of a compaction; the law's sameDisk. -/
namespace Go.Proofs.YtfimaflglnemdaaDoor
open Go.RowKit
open JM
set_option maxRecDepth 20000
namespace Dev
theorem cutP_zero (p : List Nat × Nat) : (cutP p 0).1 = p.1.take p.2 := by
  unfold cutP keepN
  simp
theorem fl_cut (x : Sp) (k0 k1 i : Nat) : fl (cutP x.1 k0, cutP x.2 k1) i = if i = 0 then cutP x.1 k0 else cutP x.2 k1 := rfl
theorem cut_all {x : Sp} {i : Nat} (h : (fl x i).2 = (fl x i).1.length) : (fl (cutP x.1 0, cutP x.2 0) i).1 = (fl x i).1 := by
  unfold fl at h ⊢
  split
  · rename_i hi
    rw [if_pos hi] at h
    show (cutP x.1 0).1 = x.1.1
    rw [cutP_zero _, h, List.take_length]
  · rename_i hi
    rw [if_neg hi] at h
    show (cutP x.2 0).1 = x.2.1
    rw [cutP_zero _, h, List.take_length]
theorem cut_none {x : Sp} {i : Nat} (h : (fl x i).2 = 0) : (fl (cutP x.1 0, cutP x.2 0) i).1 = [] := by
  unfold fl at h ⊢
  split
  · rename_i hi
    rw [if_pos hi] at h
    show (cutP x.1 0).1 = []
    rw [cutP_zero _, h, List.take_zero]
  · rename_i hi
    rw [if_neg hi] at h
    show (cutP x.2 0).1 = []
    rw [cutP_zero _, h, List.take_zero]
/-- Both files hold a journal: the younger one is told. -/
theorem rep_both {x : Sp} {live o gen first first2 : Nat} {base base2 : List (List Nat)} {bs : List (List (List Nat))} (hl : o + live = 1) (h2 : (fl x live).1 = journalw gen first base bs) (h3 : (fl x o).1 = journalw (gen + 1) first2 base2 []) (g1 : 1 ≤ gen) (g2 : gen ≤ 1000) (f1 : 1 ≤ first) (f2 : first + bs.length ≤ 1000) (e1 : 1 ≤ first2) (e2 : first2 ≤ 1000) (hb : Gl base) (hbs : ∀ b ∈ bs, Gl b) (hb2 : Gl base2) (hlen : (journalw gen first base bs).length ≤ 67108864) (hlen2 : (journalw (gen + 1) first2 base2 []).length ≤ 67108864) :
    rep x.1.1 x.2.1 = .story o ⟨true, true, (journalw (gen + 1) first2 base2 []).length, gen + 1, first2, base2, [], []⟩ := by
  have hf := file_journal (gen := gen) (first := first) (base := base) (bs := bs) g1 (by omega) f1 (by omega) (by omega) hb hbs
  have hf2 := file_journal (gen := gen + 1) (first := first2) (base := base2) (bs := []) (by omega) (by omega) e1 (by simp; omega) (by omega) hb2 (fun b h => (by cases h))
  obtain ⟨rfl, rfl⟩ | ⟨rfl, rfl⟩ : (live = 0 ∧ o = 1) ∨ (live = 1 ∧ o = 0) := by omega
  · have q0 : x.1.1 = journalw gen first base bs := h2
    have q1 : x.2.1 = journalw (gen + 1) first2 base2 [] := h3
    rw [q0, q1, rep_pick (by omega) (by rw [hf]) (by omega) (by rw [hf2]), hf, hf2]
    unfold pick
    simp
  · have q0 : x.2.1 = journalw gen first base bs := h2
    have q1 : x.1.1 = journalw (gen + 1) first2 base2 [] := h3
    rw [q0, q1, rep_pick (by omega) (by rw [hf2]) (by omega) (by rw [hf]), hf, hf2]
    unfold pick
    simp
end Dev
end Go.Proofs.YtfimaflglnemdaaDoor
