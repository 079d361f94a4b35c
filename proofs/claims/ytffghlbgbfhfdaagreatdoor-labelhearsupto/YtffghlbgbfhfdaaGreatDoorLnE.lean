/- sameFinger. -/
import Derived.Test.YtffghlbgbfhfdaaGreatDoorLnK
namespace Go.Proofs.YtffghlbgbfhfdaaGreatDoor
open Go.RowKit Go.Shelf Go.Sort
/-- The same fingers, whatever memory their references have. -/
def Same (a b : Fg) : Prop := a.k = b.k ∧ a.L = b.L ∧ a.self = b.self ∧ a.out = b.out ∧ a.ix = b.ix ∧ a.sm = b.sm ∧ a.nm = b.nm
def SmP (a b : Fg) (e : Ending) : Prop := ∃ r : Bool, e = .returned (.bool r) ∧ (r = true ↔ Same a b)
def eqS24 (x y : Value) : Sem Bool := Op.equalIn 10000 24 x y
theorem toEq24 (x y : Value) : Op.equalIn 10000 24 x y = eqS24 x y := rfl
theorem run_eqS24 (w : World) (h k : List Nat) (hl : h.length = 32) (kl : k.length = 32) : (eqS24 (.agg (bs h)) (.agg (bs k))).run Tryz.prog w = .ok (decide (h = k)) w :=
  run_equalIn_bs (P := Tryz.prog) w 9998 Tryz.underlying24 Tryz.underlying5 size5 h k hl kl
attribute [local go_sem ↓] toSl24 toEq24
set_option maxRecDepth 100000 in
set_option maxHeartbeats 3200000 in
theorem sameF_any (a b : Fg) (w : World) (ha : Ls a.v a.L w) (hb : Ls b.v b.L w) (hA : a.L.length ≤ 1099511627776) (hB : b.L.length ≤ 1099511627776) :
    Calls Tryz.prog 6 #[.agg (fing a), .agg (fing b)] w fun e w' => SmP a b e ∧ Below w.heap.size w w' := by
  obtain ⟨FA, hFA⟩ : ∃ FA, FA = fing a := ⟨_, rfl⟩
  obtain ⟨FB, hFB⟩ : ∃ FB, FB = fing b := ⟨_, rfl⟩
  have fa0 : FA[0]? = some (.int .i64 a.k) := by rw [hFA]; exact fing_head a 0 (by omega)
  have fb0 : FB[0]? = some (.int .i64 b.k) := by rw [hFB]; exact fing_head b 0 (by omega)
  have fa1 : FA[1]? = some a.v := by rw [hFA]; exact fing_head a 1 (by omega)
  have fb1 : FB[1]? = some b.v := by rw [hFB]; exact fing_head b 1 (by omega)
  obtain ⟨W0, hW0⟩ : ∃ W0, (w.alloc (.cells FA 26)).alloc (.cells FB 26) = W0 := ⟨_, rfl⟩
  have b0 : Below w.heap.size w W0 := by rw [← hW0]; exact ((Below.refl _ w).alloc (Nat.le_refl _) _).alloc (by simp) _
  have r0 : W0.heap[w.heap.size]? = some (.cells FA 26 (0, 0)) := by rw [← hW0]; exact heap_alloc2_old _ _ _
  have q0 : W0.heap[w.heap.size + 1]? = some (.cells FB 26 (0, 0)) := by rw [← hW0]; exact heap_alloc2_new _ _ _
  have HB0 : Hid (Below w.heap.size w W0) := b0
  have C := same_any a.L b.L hA hB a.v b.v W0 (ha.below b0) (hb.below b0)
  obtain ⟨oa, ca, hva, -, -⟩ := ha.form
  obtain ⟨ob, cb, hvb, -, -⟩ := hb.form
  rw [hva, hvb] at C
  rw [hva] at fa1
  rw [hvb] at fb1
  have HC : Hid _ := C
  have HR : Hid (W0.heap[w.heap.size]? = some (.cells FA 26 (0, 0)) ∧ W0.heap[w.heap.size + 1]? = some (.cells FB 26 (0, 0)) ∧ FA = fing a ∧ FB = fing b) := ⟨r0, q0, hFA, hFB⟩
  have HW0 : Hid _ := hW0
  rw [← hFA, ← hFB]
  clear hFA hFB b0 r0 q0 C ha hb hva hvb hW0 hA hB
  obtain ⟨la, hla⟩ : ∃ la, la = a.L.length := ⟨_, rfl⟩
  obtain ⟨lb, hlb⟩ : ∃ lb, lb = b.L.length := ⟨_, rfl⟩
  rw [← hla, ← hlb] at HC
  rw [← hla] at fa1
  rw [← hlb] at fb1
  obtain ⟨ka, hka⟩ : ∃ ka, ka = a.k := ⟨_, rfl⟩
  obtain ⟨kb, hkb⟩ : ∃ kb, kb = b.k := ⟨_, rfl⟩
  rw [← hka] at fa0
  rw [← hkb] at fb0
  have HKK : Hid (ka = a.k ∧ kb = b.k) := ⟨hka, hkb⟩
  clear hla hlb hka hkb
  by_cases h0 : ka = kb
  case neg =>
    have hs : Hid (¬ Same a b) := fun h => h0 (by rw [HKK.out.1, HKK.out.2]; exact h.1)
    go_enter Tryz.func6, Tryz.ntmps6
    go_wp2
    rw [HW0.out]
    go_ret
    exact ⟨⟨false, rfl, by simp [hs.out]⟩, HB0.out⟩
  have HK0 : Hid (a.k = b.k) := by show _ = _; rw [← HKK.out.1, ← HKK.out.2, h0]
  subst h0
  clear HKK
  go_enter Tryz.func6, Tryz.ntmps6
  go_wp2_with fail
  rw [HW0.out]
  refine Calls.mono HC.out ?_
  rintro e W1 ⟨rfl, q, hq⟩
  have b1 : Below W0.heap.size W0 W1 := by rw [hq]; exact Below.drewN' (Below.refl _ _) _
  have hz : w.heap.size + 1 < W0.heap.size := (Array.getElem?_eq_some_iff.1 HR.out.2.1).1
  have r1 : W1.heap[w.heap.size]? = some (.cells (fing a) 26 (0, 0)) := by rw [← HR.out.2.2.1]; exact (b1.block _ (by omega)).trans HR.out.1
  have q1 : W1.heap[w.heap.size + 1]? = some (.cells (fing b) 26 (0, 0)) := by rw [← HR.out.2.2.2]; exact (b1.block _ (by omega)).trans HR.out.2.1
  have HB1 : Hid (Below w.heap.size w W1) := HB0.out.trans (b1.mono HB0.out.size)
  obtain ⟨-, -, ca2, ca3, ca4, ca37⟩ := fing_cells r1
  obtain ⟨-, -, cb2, cb3, cb4, cb37⟩ := fing_cells q1
  have lsa := run_ldS W1 w.heap.size 5 a.sm (fun j hj => by rw [cell_of_row _ _ _ _ _ _ r1]; exact fing_sum a j hj) a.hl
  have lsb := run_ldS W1 (w.heap.size + 1) 5 b.sm (fun j hj => by rw [cell_of_row _ _ _ _ _ _ q1]; exact fing_sum b j hj) b.hl
  have es := run_eqS24 W1 a.sm b.sm a.hl b.hl
  clear HC hq b1 hz r1 q1 HB0 HR HW0 fa0 fb0 fa1 fb1
  by_cases h1 : a.L = b.L
  case neg =>
    have hs : Hid (¬ Same a b) := fun h => h1 (h.2.1)
    rw [decide_eq_false h1]
    go_wp2
    go_ret
    exact ⟨⟨false, rfl, by simp [hs.out]⟩, HB1.out⟩
  rw [decide_eq_true h1]
  by_cases h2 : a.self = b.self
  case neg =>
    have hs : Hid (¬ Same a b) := fun h => h2 (h.2.2.1)
    have e2 : (a.self == b.self) = false := beq_eq_false_iff_ne.2 h2
    go_wp2
    go_ret
    exact ⟨⟨false, rfl, by simp [hs.out]⟩, HB1.out⟩
  rw [h2] at ca2
  by_cases h3 : a.out = b.out
  case neg =>
    have hs : Hid (¬ Same a b) := fun h => h3 (h.2.2.2.1)
    have e3 : (a.out.toList == b.out.toList) = false := beq_off (fun e => h3 (toList_inj.1 e))
    go_wp2
    go_ret
    exact ⟨⟨false, rfl, by simp [hs.out]⟩, HB1.out⟩
  rw [h3] at ca3
  by_cases h4 : a.ix = b.ix
  case neg =>
    have hs : Hid (¬ Same a b) := fun h => h4 (h.2.2.2.2.1)
    have e4 : (a.ix == b.ix) = false := beq_eq_false_iff_ne.2 h4
    go_wp2
    go_ret
    exact ⟨⟨false, rfl, by simp [hs.out]⟩, HB1.out⟩
  rw [h4] at ca4
  by_cases h5 : a.sm = b.sm
  case neg =>
    have hs : Hid (¬ Same a b) := fun h => h5 (h.2.2.2.2.2.1)
    rw [decide_eq_false h5] at es
    go_wp2
    go_ret
    exact ⟨⟨false, rfl, by simp [hs.out]⟩, HB1.out⟩
  rw [decide_eq_true h5, h5] at es
  rw [h5] at lsa
  by_cases h6 : a.nm = b.nm
  case neg =>
    have hs : Hid (¬ Same a b) := fun h => h6 (h.2.2.2.2.2.2)
    have e6 : (a.nm.toList == b.nm.toList) = false := beq_off (fun e => h6 (toList_inj.1 e))
    go_wp2
    go_ret
    exact ⟨⟨false, rfl, by simp [hs.out]⟩, HB1.out⟩
  rw [h6] at ca37
  have hs : Hid (Same a b) := ⟨HK0.out, h1, h2, h3, h4, h5, h6⟩
  clear h1 h2 h3 h4 h5 h6
  go_wp2
  go_ret
  exact ⟨⟨true, rfl, by simp [hs.out]⟩, HB1.out⟩
end Go.Proofs.YtffghlbgbfhfdaaGreatDoor
