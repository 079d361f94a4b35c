/- The document's Hear of any text. -/
import Derived.Test.YtffghlbgbfhfdaaGreatDoorLhC
import Derived.Test.YtffghlbgbfhfdaaGreatDoorLrA
import Derived.Test.YtffghlbgbfhfdaaGreatDoorLnQ
namespace Go.Proofs.YtffghlbgbfhfdaaGreatDoor
open Go.RowKit Go.Shelf Go.Sort
theorem Sm.say {f F : Fg} (h : Sm f F) : sayT f = sayT F := by
  rw [h.reS]
  exact reS_say F f.v
theorem Sm.ok {f F : Fg} (h : Sm f F) (ok : Ok F) : Ok f := by
  rw [h.reS]
  exact reS_ok ok f.v
attribute [local go_sem ↓] toFl to26s toBuildF
set_option maxRecDepth 100000 in
set_option maxHeartbeats 3200000 in
theorem hearR_any (s : ByteArray) (hs : s.size ≤ 1073741000) (w : World) :
    Calls Tryz.prog 5 #[.string s] w (HrP s w) := by
  obtain ⟨W0, hW0⟩ : ∃ W0, w.alloc (.cells #[.int .i64 0, .slice none 0 0, .bool false, .string ⟨#[]⟩, .int .i64 0, .int .u8 0, .int .u8 0, .int .u8 0, .int .u8 0, .int .u8 0, .int .u8 0, .int .u8 0, .int .u8 0, .int .u8 0, .int .u8 0, .int .u8 0, .int .u8 0, .int .u8 0, .int .u8 0, .int .u8 0, .int .u8 0, .int .u8 0, .int .u8 0, .int .u8 0, .int .u8 0, .int .u8 0, .int .u8 0, .int .u8 0, .int .u8 0, .int .u8 0, .int .u8 0, .int .u8 0, .int .u8 0, .int .u8 0, .int .u8 0, .int .u8 0, .int .u8 0, .string ⟨#[]⟩] 26) = W0 := ⟨_, rfl⟩
  have b0 : Below w.heap.size w W0 := by rw [← hW0]; exact (Below.refl _ w).alloc (Nat.le_refl _) _
  have R0 : Hid (W0.heap[w.heap.size]? = some (.cells zF 26 (0, 0))) := by show _ = _; rw [← hW0, zF_lit]; exact heap_alloc_new _ _
  have z0 : W0.heap.size = w.heap.size + 1 := by rw [← hW0]; simp
  have HZ0 : Hid (W0.heap.size = w.heap.size + 1) := z0
  have CF : Hid _ := guess_any s hs W0
  have HB0 : Hid (Below w.heap.size w W0) := b0
  have HW0 : Hid _ := hW0
  have HS : Hid (s.size ≤ 1073741000) := hs
  have bZ : ∀ W, (buildF #[]).run Tryz.prog W = .ok (.agg zF) W := fun W => run_buildZ W
  clear hW0 b0 hs z0
  go_enter Tryz.func5, Tryz.ntmps5
  go_wp2_with fail
  rw [HW0.out]
  refine Calls.mono CF.out ?_
  rintro e W1 ⟨f, ret, rfl, own, hlen, b1, hex⟩
  have HX : Hid (∀ F : Fg, Ok F → sayT F = s → ret = true ∧ Sm f F) := hex
  have ls := own_Ls own
  obtain ⟨oo, cc, hv, -, -⟩ := ls.form
  obtain ⟨C, hC⟩ : ∃ C, C = fing f := ⟨_, rfl⟩
  have hCs : C.size = 38 := by rw [hC]; exact fing_size f
  have hC1 : C.all (·.oneCell') = true := by rw [hC, fing_fgA, hv]; exact fgA_one _ _ _ _ _ _ _ _ _
  rw [← hC]
  obtain ⟨W2, s2, r2, b2⟩ := layF W1 C hCs hC1
  have l2 := ldF W2 W1.heap.size C hCs r2
  have b02 : Below W0.heap.size W0 W2 := b1.trans (b2.mono b1.size)
  have R2 : W2.heap[w.heap.size]? = some (.cells zF 26 (0, 0)) := (b02.block _ (by have := HZ0.out; omega)).trans R0.out
  have bw2 : Below w.heap.size w W2 := HB0.out.trans (b02.mono HB0.out.size)
  have HBW : Hid (Below w.heap.size w W2 ∧ W2.heap[w.heap.size]? = some (.cells zF 26 (0, 0)) ∧ w.heap.size < W2.heap.size) := ⟨bw2, R2, (Array.getElem?_eq_some_iff.1 R2).1⟩
  cases ret with
  | false =>
    have HN : Hid (∀ F : Fg, Ok F → sayT F ≠ s) := fun F ok he => by have := (HX.out F ok he).1; cases this
    have st := stF W2 w.heap.size zF zF zF_size zF_size (fgA_one _ _ _ _ _ _ _ _ _) R2
    have HR4 : Hid ((W2.setRow w.heap.size zF).heap[w.heap.size]? = some (.cells zF 26 (0, 0))) := setRow_heap _ _ _ _ _ _ R2
    have HB4 : Hid (Below w.heap.size w (W2.setRow w.heap.size zF)) := below_setRow bw2 (Nat.le_refl _) _
    clear CF ls own hlen b1 hex hv hC hCs hC1 r2 b2 l2 b02 R2 bw2 HW0 HBW
    go_wp2
    exact bodyPost_ret (results_F2 rfl _ _ w.heap.size zF zF_size rfl HR4.out) rfl ⟨HB4.out, .inr ⟨HN.out, rfl⟩⟩
  | true =>
    have CS0 := sayR_any f (by have := HS.out; omega) W2 (ls.below b2)
    rw [← hC] at CS0
    by_cases hE : chkV f = 0
    · have hsT : sT f = sayT f := by unfold sT; rw [if_pos hE]
      rw [hsT, hE] at CS0
      by_cases hst : sayT f = s
      · rw [hst] at CS0
        have hse : (s.toList == s.toList) = true := by simp
        have CS : Hid (Calls Tryz.prog 10 #[.agg C] W2 fun e w' => e = .returned (.tuple #[.string s, .int .i64 0]) ∧ Below W2.heap.size W2 w') := CS0
        have sm := (HX.out f (ok_of hE) hst).2
        have HFX : Hid (fing (reS f f.v) = C ∧ f.L = dd (srt f.L) ∧ Ok f ∧ sayT f = s) := ⟨by rw [← sm.reS, hC], sm.L, ok_of hE, hst⟩
        have HOW : Hid (W2.ownsRow W0.heap.size 51 21 f.v f.L.length (cells f.L)) := own_belowG own b2
        have HCC : Hid (C.size = 38 ∧ C.all (·.oneCell') = true ∧ W2.heap[W1.heap.size]? = some (.cells C 26 (0, 0))) := ⟨hCs, hC1, r2⟩
        clear CF ls own hlen b1 hex hv hC hCs hC1 r2 b2 b02 R2 bw2 HW0 CS0 hE hsT hst sm
        go_wp2_with fail
        refine Calls.mono CS.out ?_
        rintro e W3 ⟨rfl, b3⟩
        have R3 : W3.heap[w.heap.size]? = some (.cells zF 26 (0, 0)) := (b3.block _ HBW.out.2.2).trans HBW.out.2.1
        have l3 := ldF W3 W1.heap.size C HCC.out.1 ((b3.block _ (Array.getElem?_eq_some_iff.1 HCC.out.2.2).1).trans HCC.out.2.2)
        have st := stF W3 w.heap.size zF C zF_size HCC.out.1 HCC.out.2.1 R3
        have HR4 : Hid ((W3.setRow w.heap.size C).heap[w.heap.size]? = some (.cells C 26 (0, 0))) := setRow_heap _ _ _ _ _ _ R3
        have HB4 : Hid (Below w.heap.size w (W3.setRow w.heap.size C)) := below_setRow (HBW.out.1.trans (b3.mono HBW.out.1.size)) (Nat.le_refl _) _
        have HO4 : Hid (Ls f.v f.L (W3.setRow w.heap.size C)) := own_Ls (own_row' (own_belowG HOW.out b3) (by have := HZ0.out; omega) C)
        clear CS b3 R3 HBW l2 s2 HOW
        go_wp2
        refine bodyPost_ret (results_F2 rfl _ _ w.heap.size C HCC.out.1 rfl HR4.out) rfl ⟨HB4.out, .inl ⟨f, HFX.out.2.2.1, HFX.out.2.2.2, f.v, by rw [HFX.out.1]; rfl, ?_⟩⟩
        rw [← HFX.out.2.1]
        exact HO4.out
      · have HN : Hid (∀ F : Fg, Ok F → sayT F ≠ s) := fun F ok he => hst ((HX.out F ok he).2.say.trans he)
        have hne : (((sayT f).toList == s.toList)) = false := beq_off (fun e => hst (toList_inj.1 e))
        obtain ⟨t, ht⟩ : ∃ t, t = sayT f := ⟨_, rfl⟩
        rw [← ht] at hne CS0
        have CS : Hid (Calls Tryz.prog 10 #[.agg C] W2 fun e w' => e = .returned (.tuple #[.string t, .int .i64 0]) ∧ Below W2.heap.size W2 w') := CS0
        clear CF ls own hlen b1 hex hv hC hCs hC1 r2 b2 b02 R2 bw2 HW0 CS0 hE hsT hst ht
        go_wp2_with fail
        refine Calls.mono CS.out ?_
        rintro e W3 ⟨rfl, b3⟩
        have R3 : W3.heap[w.heap.size]? = some (.cells zF 26 (0, 0)) := (b3.block _ HBW.out.2.2).trans HBW.out.2.1
        have st := stF W3 w.heap.size zF zF zF_size zF_size (fgA_one _ _ _ _ _ _ _ _ _) R3
        have HR4 : Hid ((W3.setRow w.heap.size zF).heap[w.heap.size]? = some (.cells zF 26 (0, 0))) := setRow_heap _ _ _ _ _ _ R3
        have HB4 : Hid (Below w.heap.size w (W3.setRow w.heap.size zF)) := below_setRow (HBW.out.1.trans (b3.mono HBW.out.1.size)) (Nat.le_refl _) _
        clear CS b3 R3 HBW l2 s2
        go_wp2
        exact bodyPost_ret (results_F2 rfl _ _ w.heap.size zF zF_size rfl HR4.out) rfl ⟨HB4.out, .inr ⟨HN.out, rfl⟩⟩
    · have HN : Hid (∀ F : Fg, Ok F → sayT F ≠ s) := fun F ok he => hE (chk_ok ((HX.out F ok he).2.ok ok))
      have hsT : sT f = ⟨#[]⟩ := by unfold sT; rw [if_neg hE]
      obtain ⟨E, hEE⟩ : ∃ E, E = chkV f := ⟨_, rfl⟩
      rw [hsT, ← hEE] at CS0
      have hE0 : ¬ ((E : Int) = 0) := by omega
      have CS : Hid (Calls Tryz.prog 10 #[.agg C] W2 fun e w' => e = .returned (.tuple #[.string ⟨#[]⟩, .int .i64 (E : Int)]) ∧ Below W2.heap.size W2 w') := CS0
      clear CF ls own hlen b1 hex hv hC hCs hC1 r2 b2 b02 R2 bw2 HW0 CS0 hE hsT hEE
      go_wp2_with fail
      refine Calls.mono CS.out ?_
      rintro e W3 ⟨rfl, b3⟩
      have R3 : W3.heap[w.heap.size]? = some (.cells zF 26 (0, 0)) := (b3.block _ HBW.out.2.2).trans HBW.out.2.1
      have st := stF W3 w.heap.size zF zF zF_size zF_size (fgA_one _ _ _ _ _ _ _ _ _) R3
      have HR4 : Hid ((W3.setRow w.heap.size zF).heap[w.heap.size]? = some (.cells zF 26 (0, 0))) := setRow_heap _ _ _ _ _ _ R3
      have HB4 : Hid (Below w.heap.size w (W3.setRow w.heap.size zF)) := below_setRow (HBW.out.1.trans (b3.mono HBW.out.1.size)) (Nat.le_refl _) _
      clear CS b3 R3 HBW l2 s2
      go_wp2
      exact bodyPost_ret (results_F2 rfl _ _ w.heap.size zF zF_size rfl HR4.out) rfl ⟨HB4.out, .inr ⟨HN.out, rfl⟩⟩
end Go.Proofs.YtffghlbgbfhfdaaGreatDoor
