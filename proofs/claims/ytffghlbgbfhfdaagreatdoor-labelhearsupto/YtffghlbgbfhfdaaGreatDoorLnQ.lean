/- Hear of any text. -/
import Derived.Test.YtffghlbgbfhfdaaGreatDoorLnL
import Derived.Test.YtffghlbgbfhfdaaGreatDoorLnK
namespace Go.Proofs.YtffghlbgbfhfdaaGreatDoor
open Go.RowKit Go.Shelf Go.Sort
/-- What Hear answers. -/
def HrP (s : ByteArray) (w : World) (e : Ending) (w' : World) : Prop :=
  Below w.heap.size w w' ∧ ((∃ f : Fg, Ok f ∧ sayT f = s ∧ ∃ v, e = .returned (.tuple #[.agg (fing (reS f v)), .int .i64 0]) ∧ Ls v (dd (srt f.L)) w') ∨ ((∀ f : Fg, Ok f → sayT f ≠ s) ∧ e = .returned (.tuple #[.agg zF, .int .i64 25])))
attribute [local go_sem ↓] toFl to26s toBuildF
set_option maxRecDepth 100000 in
set_option maxHeartbeats 3200000 in
theorem hear_any (s : ByteArray) (hs : s.size ≤ 1099511627776) (w : World) (hk : Tk w) (hx : Tx w) (he : Te w) (h8 : 8 < w.heap.size) :
    Calls Tryz.prog 4 #[.string s] w (HrP s w) := by
  by_cases hex : ∃ f : Fg, Ok f ∧ sayT f = s
  · obtain ⟨f, ok, rfl⟩ := hex
    refine (hear_ok f ok w hk hx).mono ?_
    rintro e w' ⟨v, rfl, own, hb⟩
    exact ⟨hb, .inl ⟨f, ok, rfl, v, by rw [reS_fing], own_Ls own⟩⟩
  have HN : Hid (∀ f : Fg, Ok f → sayT f ≠ s) := fun f h1 h2 => hex ⟨f, h1, h2⟩
  obtain ⟨W0, hW0⟩ : ∃ W0, w.alloc (.cells #[.int .i64 0, .slice none 0 0, .bool false, .string ⟨#[]⟩, .int .i64 0, .int .u8 0, .int .u8 0, .int .u8 0, .int .u8 0, .int .u8 0, .int .u8 0, .int .u8 0, .int .u8 0, .int .u8 0, .int .u8 0, .int .u8 0, .int .u8 0, .int .u8 0, .int .u8 0, .int .u8 0, .int .u8 0, .int .u8 0, .int .u8 0, .int .u8 0, .int .u8 0, .int .u8 0, .int .u8 0, .int .u8 0, .int .u8 0, .int .u8 0, .int .u8 0, .int .u8 0, .int .u8 0, .int .u8 0, .int .u8 0, .int .u8 0, .int .u8 0, .string ⟨#[]⟩] 26) = W0 := ⟨_, rfl⟩
  have b0 : Below w.heap.size w W0 := by rw [← hW0]; exact (Below.refl _ w).alloc (Nat.le_refl _) _
  have R0 : Hid (W0.heap[w.heap.size]? = some (.cells zF 26 (0, 0))) := by show _ = _; rw [← hW0, zF_lit]; exact heap_alloc_new _ _
  have z0 : W0.heap.size = w.heap.size + 1 := by rw [← hW0]; simp
  have HZ0 : Hid (W0.heap.size = w.heap.size + 1) := z0
  have HK0 : Hid (Tk W0 ∧ Tx W0) := ⟨hk.below b0 hk.sz, hx.below b0 hx.sz⟩
  have CF : Hid _ := finger_weak s hs W0 HK0.out.1 HK0.out.2 (he.keep (b0.block _ (by omega)) (b0.block _ (by omega))) (by omega)
  have HB0 : Hid (Below w.heap.size w W0) := b0
  have HW0 : Hid _ := hW0
  have bZ : ∀ W, (buildF #[]).run Tryz.prog W = .ok (.agg zF) W := fun W => run_buildZ W
  clear hW0 b0 hk hx he hs h8 z0 hex
  go_enter Tryz.func4, Tryz.ntmps4
  go_wp2_with fail
  rw [HW0.out]
  refine Calls.mono CF.out ?_
  rintro e W1 ⟨f, ret, rfl, ls, b1⟩
  obtain ⟨oo, cc, hv, -, -⟩ := ls.form
  obtain ⟨C, hC⟩ : ∃ C, C = fing f := ⟨_, rfl⟩
  have hCs : C.size = 38 := by rw [hC]; exact fing_size f
  have hC1 : C.all (·.oneCell') = true := by rw [hC, fing_fgA, hv]; exact fgA_one _ _ _ _ _ _ _ _ _
  rw [← hC]
  obtain ⟨W2, s2, r2, b2⟩ := layF W1 C hCs hC1
  have l2 := ldF W2 W1.heap.size C hCs r2
  have b02 : Below W0.heap.size W0 W2 := b1.trans (b2.mono b1.size)
  have R2 : W2.heap[w.heap.size]? = some (.cells zF 26 (0, 0)) := (b02.block _ (by have := HZ0.out; omega)).trans R0.out
  have bw2 : Below w.heap.size w W2 := HB0.out.trans (b02.mono HB0.out.size)
  cases ret with
  | false =>
    have st := stF W2 w.heap.size zF zF zF_size zF_size (fgA_one _ _ _ _ _ _ _ _ _) R2
    have HR4 : Hid ((W2.setRow w.heap.size zF).heap[w.heap.size]? = some (.cells zF 26 (0, 0))) := setRow_heap _ _ _ _ _ _ R2
    have HB4 : Hid (Below w.heap.size w (W2.setRow w.heap.size zF)) := below_setRow bw2 (Nat.le_refl _) _
    clear CF ls b1 hv hC hCs hC1 r2 b2 l2 b02 R2 bw2 HW0
    go_wp2
    exact bodyPost_ret (results_F2 rfl _ _ w.heap.size zF zF_size rfl HR4.out) rfl ⟨HB4.out, .inr ⟨HN.out, rfl⟩⟩
  | true =>
    have k2 : Tk W2 := HK0.out.1.below b02 HK0.out.1.sz
    have x2 : Tx W2 := HK0.out.2.below b02 HK0.out.2.sz
    have CS0 := say_any f W2 k2 x2 (ls.below b2)
    rw [← hC] at CS0
    have HBW : Hid (Below w.heap.size w W2 ∧ W2.heap[w.heap.size]? = some (.cells zF 26 (0, 0)) ∧ w.heap.size < W2.heap.size) := ⟨bw2, R2, (Array.getElem?_eq_some_iff.1 R2).1⟩
    by_cases hE : chkV f = 0
    · have hne : (((sayT f).toList == s.toList)) = false := beq_off (fun e => HN.out f (ok_of hE) (toList_inj.1 e))
      obtain ⟨t, ht⟩ : ∃ t, t = sayT f := ⟨_, rfl⟩
      rw [← ht] at hne
      rw [sayV, if_pos hE, ← ht] at CS0
      have CS : Hid (Calls Tryz.prog 8 #[.agg C] W2 fun e w' => e = .returned (.tuple #[.string t, .int .i64 0]) ∧ Below W2.heap.size W2 w') := CS0
      clear CF ls b1 hv hC hCs hC1 r2 b2 b02 R2 bw2 HW0 CS0 hE ht k2 x2
      go_wp2_with fail
      refine Calls.mono CS.out ?_
      rintro e W3 ⟨rfl, b3⟩
      have R3 : W3.heap[w.heap.size]? = some (.cells zF 26 (0, 0)) := (b3.block _ HBW.out.2.2).trans HBW.out.2.1
      have st := stF W3 w.heap.size zF zF zF_size zF_size (fgA_one _ _ _ _ _ _ _ _ _) R3
      have HR4 : Hid ((W3.setRow w.heap.size zF).heap[w.heap.size]? = some (.cells zF 26 (0, 0))) := setRow_heap _ _ _ _ _ _ R3
      have HB4 : Hid (Below w.heap.size w (W3.setRow w.heap.size zF)) := below_setRow (HBW.out.1.trans (b3.mono HBW.out.1.size)) (Nat.le_refl _) _
      clear CS b3 R3 HBW l2 s2
      go_wp2
      exact bodyPost_ret (results_F2 rfl _ _ w.heap.size zF zF_size rfl HR4.out) rfl ⟨HB4.out, .inr ⟨HN.out, rfl⟩⟩
    · obtain ⟨E, hEE⟩ : ∃ E, E = chkV f := ⟨_, rfl⟩
      rw [sayV, if_neg hE, ← hEE] at CS0
      have hE0 : ¬ ((E : Int) = 0) := by omega
      have CS : Hid (Calls Tryz.prog 8 #[.agg C] W2 fun e w' => e = .returned (.tuple #[.string ⟨#[]⟩, .int .i64 (E : Int)]) ∧ Below W2.heap.size W2 w') := CS0
      clear CF ls b1 hv hC hCs hC1 r2 b2 b02 R2 bw2 HW0 CS0 hE hEE k2 x2
      go_wp2_with fail
      refine Calls.mono CS.out ?_
      rintro e W3 ⟨rfl, b3⟩
      have R3 : W3.heap[w.heap.size]? = some (.cells zF 26 (0, 0)) := (b3.block _ HBW.out.2.2).trans HBW.out.2.1
      have st := stF W3 w.heap.size zF zF zF_size zF_size (fgA_one _ _ _ _ _ _ _ _ _) R3
      have HR4 : Hid ((W3.setRow w.heap.size zF).heap[w.heap.size]? = some (.cells zF 26 (0, 0))) := setRow_heap _ _ _ _ _ _ R3
      have HB4 : Hid (Below w.heap.size w (W3.setRow w.heap.size zF)) := below_setRow (HBW.out.1.trans (b3.mono HBW.out.1.size)) (Nat.le_refl _) _
      clear CS b3 R3 HBW l2 s2
      go_wp2
      exact bodyPost_ret (results_F2 rfl _ _ w.heap.size zF zF_size rfl HR4.out) rfl ⟨HB4.out, .inr ⟨HN.out, rfl⟩⟩
end Go.Proofs.YtffghlbgbfhfdaaGreatDoor
