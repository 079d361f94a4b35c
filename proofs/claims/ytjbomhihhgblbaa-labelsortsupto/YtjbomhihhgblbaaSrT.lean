/- LabelSorts: the walk. -/
import Derived.Test.YtjbomhihhgblbaaSrS
namespace Go.Proofs.Ytjbomhihhgblbaa
open Go.RowKit Go.Shelf Go.Sort
theorem both (L : List Lb) : dd (srt L) = insL L := sorts_one swo ltT L
theorem insL_len (L : List Lb) : (insL L).length ≤ L.length := by
  rw [← both]
  have : ∀ l : List Lb, (dd l).length ≤ l.length := fun l => by
    induction l with
    | nil => exact Nat.le_refl _
    | cons x r ih =>
      cases r with
      | nil => exact Nat.le_refl _
      | cons y r =>
        rw [dd_cc]
        split
        · have := ih; simp only [List.length_cons] at this ⊢; omega
        · have := ih; simp only [List.length_cons] at this ⊢; omega
  have h := this (srt L)
  rw [srt_len] at h
  exact h
attribute [local go_sem ↓] toSl
set_option maxRecDepth 100000 in
set_option maxHeartbeats 1000000 in
theorem sorts_any (L : List Lb) (hn : L.length ≤ 1073741823) (v : Value) (w : World) (hv : Ls v L w) :
    Calls Try.prog 3 #[v] w fun e w' => e = .returned (.bool true) ∧ Below w.heap.size w w' := by
  obtain ⟨o, c, rfl, -, -⟩ := hv.form
  have C1 : Hid _ := roomy_any L (by omega) _ w hv
  have HV : Hid (Ls (.slice o L.length c) L w) := hv
  obtain ⟨n, hn0⟩ : ∃ n, n = L.length := ⟨_, rfl⟩
  have HN : Hid (n = L.length) := hn0
  rw [← hn0] at C1 HV hn ⊢
  clear hv hn0
  go_enter Try.func3, Try.ntmps3
  go_wp2_with fail
  refine Calls.mono C1.out ?_
  rintro e W1 ⟨u, rfl, o1, b1⟩
  obtain ⟨g, cap, rfl, hgw, hg1, hcap, hcm, hr⟩ : ∃ g cap, u = .slice (some ⟨g, 0, none⟩) (n + 2) cap ∧ w.heap.size ≤ g ∧ g < W1.heap.size ∧ n + 2 ≤ cap ∧ cap ≤ maxLen ∧ Lr g 0 (L ++ [mk, mk]) W1 := by
    obtain ⟨-, ⟨h, -⟩ | ⟨g, cap, h1, h2, h3, h4, h5, h6⟩⟩ := own_ls o1
    · simp at h
    · have e : (L ++ [mk, mk]).length = n + 2 := by rw [List.length_append, HN.out]; rfl
      rw [e] at h1 h4
      exact ⟨g, cap, h1, h2, h3, h4, h5, h6⟩
  have HA : Hid (Lr g 0 (L ++ [mk, mk]) W1) := hr
  have HB1 : Hid (Below w.heap.size w W1) := b1
  have hLs : Ls (.slice (some ⟨g, 0, none⟩) n cap) L W1 := .inr ⟨g, 0, cap, by rw [HN.out], by have := HN.out; omega, hcm, hg1, fun i x hx => hr i x (by rw [List.getElem?_append_left (List.getElem?_eq_some_iff.1 hx).1]; exact hx)⟩
  have C2 : Hid (Calls Try.prog 5 #[.slice (some ⟨g, 0, none⟩) n cap] W1 fun e w' => e = .returned (.slice (some ⟨W1.heap.size, 0, none⟩) (insL L).length n) ∧ (insL L).length ≤ n ∧ Lr W1.heap.size 0 (insL L) w' ∧ Below W1.heap.size W1 w' ∧ W1.heap.size < w'.heap.size) := by
    have := sortC_any L (by have := HN.out; omega) _ W1 hLs
    rw [both, ← HN.out] at this
    exact this
  have ch := fun X : World => run_cut_h X g 0 (n + 2) cap n (by omega)
  have HC : Hid (n + 2 ≤ cap ∧ cap ≤ maxLen ∧ g < W1.heap.size) := ⟨hcap, hcm, hg1⟩
  clear hr b1 o1 C1 hLs hcap hcm hg1 hgw
  go_wp2_with fail
  refine Calls.mono C2.out ?_
  rintro e W2 ⟨rfl, hk2, lr2, b2, z2⟩
  have HB2 : Hid (Below w.heap.size w W2) := HB1.out.trans (b2.mono HB1.out.size)
  have H2 : Hid (Below W1.heap.size W1 W2 ∧ Lr W1.heap.size 0 (insL L) W2 ∧ W1.heap.size < W2.heap.size ∧ (insL L).length ≤ n) := ⟨b2, lr2, z2, hk2⟩
  have C3 : Hid _ := sortR_any L (by have := HN.out; omega) _ W2 (HV.out.below HB2.out)
  clear C2 ch hk2 lr2 b2 z2
  go_wp2_with fail
  refine Calls.mono C3.out ?_
  rintro e W3 ⟨u3, rfl, o3, b3⟩
  have HB3 : Hid (Below W1.heap.size W1 W3) := H2.out.1.trans (b3.mono H2.out.1.size)
  have hA3 : Ls (.slice (some ⟨W1.heap.size, 0, none⟩) (insL L).length n) (insL L) W3 := .inr ⟨W1.heap.size, 0, n, rfl, H2.out.2.2.2, by unfold maxLen; omega, by have := b3.size; have := H2.out.2.2.1; omega, H2.out.2.1.keep (b3.block _ H2.out.2.2.1)⟩
  have C4 : Hid (Calls Try.prog 6 #[.slice (some ⟨W1.heap.size, 0, none⟩) (insL L).length n, u3] W3 fun e w' => e = .returned (.bool true) ∧ ∃ q, w' = W3.drewN q) := by
    have hl := H2.out.2.2.2
    have := same_any (insL L) (insL L) (by omega) (by omega) _ _ W3 hA3 (own_Ls o3)
    rw [decide_eq_true rfl] at this
    exact this
  clear C3 o3 b3 hA3
  go_wp2_with fail
  refine Calls.mono C4.out ?_
  rintro e W4 ⟨rfl, q, rfl⟩
  have HB4 : Hid (Below W1.heap.size W1 (W3.drewN q)) := Below.drewN' HB3.out q
  have HB4w : Hid (Below w.heap.size w (W3.drewN q)) := HB1.out.trans (HB4.out.mono HB1.out.size)
  have C5 : Hid (Calls Try.prog 8 #[.slice (some ⟨g, 0, none⟩) (n + 2) cap, .slice o n c] (W3.drewN q) fun e w' => e = .returned (.bool true) ∧ Below (W3.drewN q).heap.size (W3.drewN q) w') := by
    have hc := HC.out
    have := kept_any L (by have := HN.out; omega) g cap (.slice o n c) (W3.drewN q) (by have := HB4.out.size; omega) (HA.out.keep (HB4.out.block g hc.2.2)) (by rw [← HN.out]; exact hc.1) hc.2.1 (HV.out.below HB4w.out)
    rw [← HN.out] at this
    exact this
  clear C4 HB4
  go_wp2_with fail
  refine Calls.mono C5.out ?_
  rintro e W5 ⟨rfl, b5⟩
  have HB5 : Hid (Below w.heap.size w W5) := HB4w.out.trans (b5.mono HB4w.out.size)
  clear C5 b5
  go_wp2
  go_ret
  exact ⟨rfl, HB5.out⟩
end Go.Proofs.Ytjbomhihhgblbaa
