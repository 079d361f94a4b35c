/- Hear and said, of fingers that may be said. -/
import Derived.Test.YtffghlbgbfhfdaaDoorLnF
namespace Go.Proofs.YtffghlbgbfhfdaaDoor
open Go.RowKit Go.Shelf Go.Sort
/-- Sorted, none twice. -/
theorem sort_up (L : List Lb) : (dd (srt L)).Pairwise (fun a b => cf a b < 0) ∧ ∀ x, x ∈ dd (srt L) ↔ x ∈ L := by
  have ht : ∀ x y z, ltOf cf x y = true → ltOf cf y z = true → ltOf cf x z = true := swo.trans
  have hs : (srt L).Pairwise fun a b => ltOf cf b a = false := by
    have := List.pairwise_mergeSort (le := fun x y => !(ltOf cf) y x) (by
      intro a b c h1 h2
      simp only [Bool.not_eq_true'] at h1 h2 ⊢
      exact swo.ntrans c b a h2 h1) (by
      intro a b
      simp only [Bool.or_eq_true, Bool.not_eq_true']
      by_cases e : ltOf cf b a = true
      · right
        by_cases e2 : ltOf cf a b = true
        · have := ht _ _ _ e e2
          rw [swo.irrefl] at this
          cases this
        · simpa using e2
      · left
        simpa using e) L
    refine this.imp ?_
    intro a b h
    simpa using h
  refine ⟨(dd_sorted ltT ht hs).imp ?_, fun x => ?_⟩
  · intro a b h
    exact of_decide_eq_true h
  · rw [dd_mem]
    exact List.mem_mergeSort
theorem dd_idem (L : List Lb) : dd (srt (dd (srt L))) = dd (srt L) := by
  have h1 := sort_up (dd (srt L))
  have h2 := sort_up L
  have hl : ∀ a b : Lb, cf a b < 0 → ltOf cf a b = true := fun a b h => by unfold ltOf; exact decide_eq_true h
  exact uniq (lt := ltOf cf) swo.irrefl swo.trans (h1.1.imp fun {a b} h => hl a b h) (h2.1.imp fun {a b} h => hl a b h) h1.2
/-- A finger with its references sorted. -/
def reS (f : Fg) (v : Value) : Fg := { f with v := v, L := dd (srt f.L), hn := Nat.le_trans (dd_len _) (by rw [srt_len]; exact f.hn), hL := fun x hx => f.hL x (by rw [dd_mem] at hx; exact List.mem_mergeSort.1 hx) }
theorem reS_fing (f : Fg) (v : Value) : fing (reS f v) = fgA f.k v f.self f.out f.ix f.sm f.nm := rfl
theorem reS_say (f : Fg) (v : Value) : sayT (reS f v) = sayT f := by
  have h : headT (reS f v) = headT f := by
    show kwV f.k ++ refsT (dd (srt (dd (srt f.L)))) ++ tlT (reS f v) = _
    rw [dd_idem]
    rfl
  unfold sayT
  rw [h]
  rfl
theorem reS_ok {f : Fg} (ok : Ok f) (v : Value) : Ok (reS f v) := by
  obtain ⟨u1, u2, u3, u4⟩ := un_facts ok
  have DO := dd_ok ok
  refine ⟨ok.k1, ok.k4, ?_, ok.nm, ok.out, ok.i0, ok.i6, DO.1, fun x hx => (DO.2 x hx).1⟩
  have h := ok.un
  unfold unV at h ⊢
  simp only [Bool.or_eq_false_iff, Bool.and_eq_false_imp, decide_eq_true_eq, decide_eq_false_iff_not] at h ⊢
  obtain ⟨⟨⟨h1, h2⟩, h3⟩, h4⟩ := h
  refine ⟨⟨⟨fun q => ?_, h2⟩, h3⟩, h4⟩
  have e : f.L = [] := u1 q
  show ¬ 0 < (dd (srt f.L)).length
  rw [e, dd_none]
  decide
theorem badN_zero : ∀ L : List Lb, (∀ x ∈ L, okN x.s = 0) → badN L = 0
  | [], _ => rfl
  | x :: r, h => by
    rw [badN, if_pos (h x (by simp))]
    exact badN_zero r (fun y hy => h y (by simp [hy]))
theorem chk_ok {f : Fg} (ok : Ok f) : chkV f = 0 := by
  unfold chkV
  rw [if_neg (fun h => h ⟨ok.k1, ok.k4⟩), if_neg (by rw [ok.un]; decide), if_neg (fun h => h ok.nm), if_neg (fun h => h.2 (ok.out h.1)), if_neg (fun h => h ⟨ok.i0, ok.i6⟩)]
  unfold refV
  rw [if_neg (by have := ok.ln; omega)]
  exact badN_zero _ ok.rf
attribute [local go_sem ↓] toFl to26s toBuildF
set_option maxRecDepth 100000 in
set_option maxHeartbeats 3200000 in
theorem hear_ok (f : Fg) (ok : Ok f) (w : World) (hk : Tk w) (hx : Tx w) :
    Calls Tryd.prog 6 #[.string (sayT f)] w fun e w' => ∃ v, e = .returned (.tuple #[.agg (fgA f.k v f.self f.out f.ix f.sm f.nm), .int .i64 0]) ∧ w'.ownsRow w.heap.size 60 21 v (dd (srt f.L)).length (cells (dd (srt f.L))) ∧ Below w.heap.size w w' := by
  obtain ⟨s, hs⟩ : ∃ s, s = sayT f := ⟨_, rfl⟩
  obtain ⟨W0, hW0⟩ : ∃ W0, w.alloc (.cells #[.int .i64 0, .slice none 0 0, .bool false, .string ⟨#[]⟩, .int .i64 0, .int .u8 0, .int .u8 0, .int .u8 0, .int .u8 0, .int .u8 0, .int .u8 0, .int .u8 0, .int .u8 0, .int .u8 0, .int .u8 0, .int .u8 0, .int .u8 0, .int .u8 0, .int .u8 0, .int .u8 0, .int .u8 0, .int .u8 0, .int .u8 0, .int .u8 0, .int .u8 0, .int .u8 0, .int .u8 0, .int .u8 0, .int .u8 0, .int .u8 0, .int .u8 0, .int .u8 0, .int .u8 0, .int .u8 0, .int .u8 0, .int .u8 0, .int .u8 0, .string ⟨#[]⟩] 26) = W0 := ⟨_, rfl⟩
  have b0 : Below w.heap.size w W0 := by rw [← hW0]; exact (Below.refl _ w).alloc (Nat.le_refl _) _
  have R0 : Hid (W0.heap[w.heap.size]? = some (.cells zF 26 (0, 0))) := by show _ = _; rw [← hW0, zF_lit]; exact heap_alloc_new _ _
  have z0 : Hid (W0.heap.size = w.heap.size + 1) := by show _ = _; rw [← hW0]; simp
  have CF : Hid (Calls Tryd.prog 12 #[.string s] W0 fun e w' => ∃ v, e = .returned (.tuple #[.agg (fgA f.k v f.self f.out f.ix f.sm f.nm), .bool true]) ∧ w'.ownsRow W0.heap.size 60 21 v (dd (srt f.L)).length (cells (dd (srt f.L))) ∧ Below W0.heap.size W0 w') := by rw [hs]; exact finger_read f ok W0 (hk.below b0 hk.sz) (hx.below b0 hx.sz)
  have HSY : Hid (∀ v W, Tk W → Tx W → Ls v (dd (srt f.L)) W → Calls Tryd.prog 4 #[.agg (fgA f.k v f.self f.out f.ix f.sm f.nm)] W fun e w' => e = .returned (.tuple #[.string s, .int .i64 0]) ∧ Below W.heap.size W w') := fun v W h1 h2 h3 => by
    have := say_any (reS f v) W h1 h2 h3
    rw [reS_fing, sayV, if_pos (chk_ok (reS_ok ok v)), reS_say, ← hs] at this
    exact this
  have HW0 : Hid _ := hW0
  have HB0 : Hid (Below w.heap.size w W0) := b0
  have HK0 : Hid (Tk W0 ∧ Tx W0) := ⟨hk.below b0 hk.sz, hx.below b0 hx.sz⟩
  rw [← hs]
  clear hs hW0 b0 hk hx ok
  go_enter Tryd.func6, Tryd.ntmps6
  go_wp2_with fail
  rw [HW0.out]
  refine Calls.mono CF.out ?_
  rintro e W1 ⟨v, rfl, own, b1⟩
  obtain ⟨oo, cc, hv, -, -⟩ := (own_Ls own).form
  obtain ⟨C, hC⟩ : ∃ C, C = fgA f.k v f.self f.out f.ix f.sm f.nm := ⟨_, rfl⟩
  have hCs : C.size = 38 := by rw [hC]; exact fgA_size _ _ _ _ _ _ _ f.hl
  have hC1 : C.all (·.oneCell') = true := by rw [hC, hv]; exact fgA_one _ _ _ _ _ _ _ _ _
  rw [← hC]
  obtain ⟨W2, s2, r2, b2⟩ := layF W1 C hCs hC1
  have l2 := ldF W2 W1.heap.size C hCs r2
  have b02 : Below W0.heap.size W0 W2 := b1.trans (b2.mono b1.size)
  have o2 := own_below own b2
  have CS : Hid (Calls Tryd.prog 4 #[.agg C] W2 fun e w' => e = .returned (.tuple #[.string s, .int .i64 0]) ∧ Below W2.heap.size W2 w') := by rw [hC]; exact HSY.out v W2 (HK0.out.1.below b02 HK0.out.1.sz) (HK0.out.2.below b02 HK0.out.2.sz) (own_Ls o2)
  have HC : Hid (C = fgA f.k v f.self f.out f.ix f.sm f.nm ∧ C.size = 38 ∧ C.all (·.oneCell') = true) := ⟨hC, hCs, hC1⟩
  have HR2 : Hid (W2.heap[W1.heap.size]? = some (.cells C 26 (0, 0)) ∧ Below W0.heap.size W0 W2 ∧ W0.heap.size ≤ W1.heap.size) := ⟨r2, b02, b1.size⟩
  have HO2 : Hid _ := o2
  clear CF own hv hC hCs hC1 r2 b2 b02 o2 b1 HSY HW0
  go_wp2_with fail
  refine Calls.mono CS.out ?_
  rintro e W3 ⟨rfl, b3⟩
  have r3 : W3.heap[W1.heap.size]? = some (.cells C 26 (0, 0)) := (b3.block _ (Array.getElem?_eq_some_iff.1 HR2.out.1).1).trans HR2.out.1
  have l3 := ldF W3 W1.heap.size C HC.out.2.1 r3
  have b03 : Below W0.heap.size W0 W3 := HR2.out.2.1.trans (b3.mono HR2.out.2.1.size)
  have R3 : W3.heap[w.heap.size]? = some (.cells zF 26 (0, 0)) := (b03.block _ (by have := z0.out; omega)).trans R0.out
  have s3 := stF W3 w.heap.size zF C zF_size HC.out.2.1 HC.out.2.2 R3
  have HR4 : Hid ((W3.setRow w.heap.size C).heap[w.heap.size]? = some (.cells C 26 (0, 0))) := setRow_heap _ _ _ _ _ _ R3
  have HB4 : Hid (Below w.heap.size w (W3.setRow w.heap.size C)) := below_setRow (HB0.out.trans (b03.mono HB0.out.size)) (Nat.le_refl _) _
  have HO4 : Hid ((W3.setRow w.heap.size C).ownsRow w.heap.size 60 21 v (dd (srt f.L)).length (cells (dd (srt f.L)))) := own_down (own_row' (own_below HO2.out b3) (by have := z0.out; omega) C) HB0.out.size
  clear CS b3 r3 b03 R3 HR2 HO2 R0 s2 l2
  go_wp2
  exact bodyPost_ret (results_F2 rfl _ _ w.heap.size C HC.out.2.1 rfl HR4.out) rfl ⟨v, by rw [← HC.out.1]; rfl, HO4.out, HB4.out⟩
/-- What said answers. -/
def SdP (f : Fg) (w : World) (e : Ending) (w' : World) : Prop :=
  Below w.heap.size w w' ∧ if chkV f = 0 then ∃ v, e = .returned (.tuple #[.agg (fing (reS f v)), .string (sayT f), .bool true]) ∧ Ls v (dd (srt f.L)) w' else e = .returned (.tuple #[.agg (fing f), .string ⟨#[]⟩, .bool false])
set_option maxRecDepth 100000 in
set_option maxHeartbeats 3200000 in
theorem said_any (f : Fg) (w : World) (hk : Tk w) (hx : Tx w) (hv0 : Ls f.v f.L w) : Calls Tryd.prog 5 #[.agg (fing f)] w (SdP f w) := by
  obtain ⟨F, hF⟩ : ∃ F, F = fing f := ⟨_, rfl⟩
  obtain ⟨oo, cc, hvv, -, -⟩ := hv0.form
  have hFs : F.size = 38 := by rw [hF]; exact fing_size f
  have hF1 : F.all (·.oneCell') = true := by rw [hF, fing_fgA, hvv]; exact fgA_one _ _ _ _ _ _ _ _ _
  obtain ⟨W0, hW0⟩ : ∃ W0, (w.alloc (.cells F 26)).alloc (.cells #[.int .i64 0, .slice none 0 0, .bool false, .string ⟨#[]⟩, .int .i64 0, .int .u8 0, .int .u8 0, .int .u8 0, .int .u8 0, .int .u8 0, .int .u8 0, .int .u8 0, .int .u8 0, .int .u8 0, .int .u8 0, .int .u8 0, .int .u8 0, .int .u8 0, .int .u8 0, .int .u8 0, .int .u8 0, .int .u8 0, .int .u8 0, .int .u8 0, .int .u8 0, .int .u8 0, .int .u8 0, .int .u8 0, .int .u8 0, .int .u8 0, .int .u8 0, .int .u8 0, .int .u8 0, .int .u8 0, .int .u8 0, .int .u8 0, .int .u8 0, .string ⟨#[]⟩] 26) = W0 := ⟨_, rfl⟩
  have b0 : Below w.heap.size w W0 := by rw [← hW0]; exact ((Below.refl _ w).alloc (Nat.le_refl _) _).alloc (by simp) _
  have r0 : W0.heap[w.heap.size]? = some (.cells F 26 (0, 0)) := by rw [← hW0]; exact heap_alloc2_old _ _ _
  have q0 : W0.heap[w.heap.size + 1]? = some (.cells zF 26 (0, 0)) := by rw [← hW0, zF_lit]; exact heap_alloc2_new _ _ _
  have l0 := ldF W0 w.heap.size F hFs r0
  have l0' : (loadR 26 (.pointer (some ⟨w.heap.size, 0, none⟩))).run Tryd.prog ((w.alloc (.cells F 26)).alloc (.cells #[.int .i64 0, .slice none 0 0, .bool false, .string ⟨#[]⟩, .int .i64 0, .int .u8 0, .int .u8 0, .int .u8 0, .int .u8 0, .int .u8 0, .int .u8 0, .int .u8 0, .int .u8 0, .int .u8 0, .int .u8 0, .int .u8 0, .int .u8 0, .int .u8 0, .int .u8 0, .int .u8 0, .int .u8 0, .int .u8 0, .int .u8 0, .int .u8 0, .int .u8 0, .int .u8 0, .int .u8 0, .int .u8 0, .int .u8 0, .int .u8 0, .int .u8 0, .int .u8 0, .int .u8 0, .int .u8 0, .int .u8 0, .int .u8 0, .int .u8 0, .string ⟨#[]⟩] 26)) = .ok (.agg F) ((w.alloc (.cells F 26)).alloc (.cells #[.int .i64 0, .slice none 0 0, .bool false, .string ⟨#[]⟩, .int .i64 0, .int .u8 0, .int .u8 0, .int .u8 0, .int .u8 0, .int .u8 0, .int .u8 0, .int .u8 0, .int .u8 0, .int .u8 0, .int .u8 0, .int .u8 0, .int .u8 0, .int .u8 0, .int .u8 0, .int .u8 0, .int .u8 0, .int .u8 0, .int .u8 0, .int .u8 0, .int .u8 0, .int .u8 0, .int .u8 0, .int .u8 0, .int .u8 0, .int .u8 0, .int .u8 0, .int .u8 0, .int .u8 0, .int .u8 0, .int .u8 0, .int .u8 0, .int .u8 0, .string ⟨#[]⟩] 26)) := by rw [hW0]; exact l0
  have k0 : Tk W0 := hk.below b0 hk.sz
  have x0 : Tx W0 := hx.below b0 hx.sz
  have ls0 : Ls f.v f.L W0 := hv0.below b0
  have CS : Hid (Calls Tryd.prog 4 #[.agg F] W0 fun e w' => e = .returned (sayV f) ∧ Below W0.heap.size W0 w') := by rw [hF]; exact say_any f W0 k0 x0 ls0
  have HP : Hid (F = fing f ∧ F.size = 38 ∧ F.all (·.oneCell') = true) := ⟨hF, hFs, hF1⟩
  have HR : Hid (W0.heap[w.heap.size]? = some (.cells F 26 (0, 0)) ∧ W0.heap[w.heap.size + 1]? = some (.cells zF 26 (0, 0)) ∧ Below w.heap.size w W0 ∧ Ls f.v f.L W0 ∧ w.heap.size + 1 < W0.heap.size) := ⟨r0, q0, b0, ls0, (Array.getElem?_eq_some_iff.1 q0).1⟩
  have HW0 : Hid _ := hW0
  rw [← hF]
  by_cases hE : chkV f = 0
  · rw [sayV, if_pos hE] at CS
    have HE : Hid (chkV f = 0) := hE
    obtain ⟨s, hs⟩ : ∃ s, s = sayT f := ⟨_, rfl⟩
    rw [← hs] at CS
    have CS2 : Hid (Calls Tryd.prog 4 #[.agg F] W0 fun e w' => e = .returned (.tuple #[.string s, .int .i64 0]) ∧ Below W0.heap.size W0 w') := CS
    clear CS
    have HSS : Hid (s = sayT f) := hs
    clear hF hFs hF1 hW0 b0 r0 q0 hk hx hv0 k0 x0 ls0 hE hs
    go_enter Tryd.func5, Tryd.ntmps5
    go_wp2_with fail
    rw [HW0.out]
    refine Calls.mono CS2.out ?_
    rintro e W1 ⟨rfl, b1⟩
    have r1 : W1.heap[w.heap.size]? = some (.cells F 26 (0, 0)) := (b1.block _ (by have := HR.out.2.2.2.2; omega)).trans HR.out.1
    have q1 : W1.heap[w.heap.size + 1]? = some (.cells zF 26 (0, 0)) := (b1.block _ (by have := HR.out.2.2.2.2; omega)).trans HR.out.2.1
    have ls1 : Ls f.v f.L W1 := HR.out.2.2.2.1.below b1
    have c1 : W1.cell? ⟨w.heap.size, 1, none⟩ = some f.v := by
      rw [HP.out.1] at r1
      exact (fing_cells r1).2.1
    have CT := sortC_any f.L f.hn f.v W1 ls1
    rw [hvv] at c1 CT
    obtain ⟨M, hM⟩ : ∃ M, M = dd (srt f.L) := ⟨_, rfl⟩
    rw [← hM] at CT
    obtain ⟨m, hm⟩ : ∃ m, m = M.length := ⟨_, rfl⟩
    obtain ⟨g1, hg1⟩ : ∃ g1, g1 = W1.heap.size := ⟨_, rfl⟩
    obtain ⟨ll, hll⟩ : ∃ ll, ll = f.L.length := ⟨_, rfl⟩
    rw [← hm, ← hg1, ← hll] at CT
    rw [← hll] at c1
    have HCT : Hid _ := CT
    have HM : Hid (M = dd (srt f.L) ∧ m = M.length ∧ g1 = W1.heap.size ∧ ll = f.L.length) := ⟨hM, hm, hg1, hll⟩
    have HR1 : Hid (W1.heap[w.heap.size]? = some (.cells F 26 (0, 0)) ∧ W1.heap[w.heap.size + 1]? = some (.cells zF 26 (0, 0)) ∧ Below W0.heap.size W0 W1) := ⟨r1, q1, b1⟩
    clear CS2 CT hM hm hg1 hll r1 q1 ls1 b1 HW0 l0 l0'
    go_wp2_with fail
    refine Calls.mono HCT.out ?_
    rintro e W2 ⟨rfl, hml, hlr, b2, z2, -⟩
    have r2 : W2.heap[w.heap.size]? = some (.cells F 26 (0, 0)) := (b2.block _ (by have := (Array.getElem?_eq_some_iff.1 HR1.out.1).1; have := HM.out.2.2.1; omega)).trans HR1.out.1
    have q2 : W2.heap[w.heap.size + 1]? = some (.cells zF 26 (0, 0)) := (b2.block _ (by have := (Array.getElem?_eq_some_iff.1 HR1.out.2.1).1; have := HM.out.2.2.1; omega)).trans HR1.out.2.1
    obtain ⟨u, hu⟩ : ∃ u : Value, u = .slice (some ⟨g1, 0, none⟩) m ll := ⟨_, rfl⟩
    obtain ⟨D, hD⟩ : ∃ D, D = fgA f.k u f.self f.out f.ix f.sm f.nm := ⟨_, rfl⟩
    have r2' := r2
    rw [HP.out.1, fing_fgA] at r2'
    have c2 : W2.cell? ⟨w.heap.size, 1, none⟩ = some f.v := (fgA_cells r2').2.1
    have f2 : W2.frozen? ⟨w.heap.size, 1, none⟩ = false := frozen_of_row _ _ _ _ _ r2
    have r3 : (W2.setCell ⟨w.heap.size, 1, none⟩ u).heap[w.heap.size]? = some (.cells D 26 (0, 0)) := by rw [hD]; exact (set_fgA r2').2.1 u
    have q3 : (W2.setCell ⟨w.heap.size, 1, none⟩ u).heap[w.heap.size + 1]? = some (.cells zF 26 (0, 0)) := (heap_setCell_other _ _ _ _ (show w.heap.size + 1 ≠ w.heap.size by omega)).trans q2
    have hDs : D.size = 38 := by rw [hD]; exact fgA_size _ _ _ _ _ _ _ f.hl
    have hD1 : D.all (·.oneCell') = true := by rw [hD, hu]; exact fgA_one _ _ _ _ _ _ _ _ _
    have l3 := ldF (W2.setCell ⟨w.heap.size, 1, none⟩ u) w.heap.size D hDs r3
    have s3 := stF (W2.setCell ⟨w.heap.size, 1, none⟩ u) (w.heap.size + 1) zF D zF_size hDs hD1 q3
    have HR4 : Hid (((W2.setCell ⟨w.heap.size, 1, none⟩ u).setRow (w.heap.size + 1) D).heap[w.heap.size + 1]? = some (.cells D 26 (0, 0))) := setRow_heap _ _ _ _ _ _ q3
    have b02 : Below w.heap.size w W2 := by
      have h1 := HR.out.2.2.1.trans (HR1.out.2.2.mono HR.out.2.2.1.size)
      have h2 : g1 = W1.heap.size := HM.out.2.2.1
      rw [h2] at b2
      exact h1.trans (b2.mono h1.size)
    have t23 : Touch w.heap.size W2 (W2.setCell ⟨w.heap.size, 1, none⟩ u) := (Touch.refl _ W2).setCell u
    have b03 : Below w.heap.size w (W2.setCell ⟨w.heap.size, 1, none⟩ u) := b02.trans (t23.below (Nat.le_refl _) b02.size)
    have HB4 : Hid (Below w.heap.size w ((W2.setCell ⟨w.heap.size, 1, none⟩ u).setRow (w.heap.size + 1) D)) := below_setRow b03 (by omega) _
    have hgg : w.heap.size + 1 < g1 := by
      have h1 := (Array.getElem?_eq_some_iff.1 HR1.out.2.1).1
      rw [HM.out.2.2.1]
      exact h1
    have HL4 : Hid (Ls u M ((W2.setCell ⟨w.heap.size, 1, none⟩ u).setRow (w.heap.size + 1) D)) := by
      have hk : ∀ j, j = g1 → ((W2.setCell ⟨w.heap.size, 1, none⟩ u).setRow (w.heap.size + 1) D).heap[j]? = W2.heap[j]? := fun j hj => (setRow_other _ _ _ _ (show j ≠ w.heap.size + 1 by omega)).trans (heap_setCell_other _ _ _ _ (show j ≠ w.heap.size by omega))
      have hc := f.hn
      have h4 := HM.out.2.2.2
      have e : u = .slice (some ⟨g1, 0, none⟩) M.length ll := by rw [hu, HM.out.2.1]
      have h2 : ∀ W, Ls (.slice (some ⟨g1, 0, none⟩) M.length ll) M W → Ls u M W := fun W h => by rw [e]; exact h
      refine h2 _ ?_
      exact .inr ⟨g1, 0, ll, rfl, by rw [← HM.out.2.1]; exact hml, by unfold maxLen; omega, by simp [World.setCell]; omega, hlr.keep (hk g1 rfl)⟩
    have HD : Hid (D = fing (reS f u) ∧ D.size = 38) := ⟨hD, hDs⟩
    have HU : Hid (u = .slice (some ⟨g1, 0, none⟩) m ll) := hu
    have l3' : (loadR 26 (.pointer (some ⟨w.heap.size, 0, none⟩))).run Tryd.prog (W2.setCell ⟨w.heap.size, 1, none⟩ (.slice (some ⟨g1, 0, none⟩) m ll)) = .ok (.agg D) (W2.setCell ⟨w.heap.size, 1, none⟩ (.slice (some ⟨g1, 0, none⟩) m ll)) := by rw [← hu]; exact l3
    have s3' : (storeR 26 (.pointer (some ⟨w.heap.size + 1, 0, none⟩)) (.agg D)).run Tryd.prog (W2.setCell ⟨w.heap.size, 1, none⟩ (.slice (some ⟨g1, 0, none⟩) m ll)) = .ok () ((W2.setCell ⟨w.heap.size, 1, none⟩ u).setRow (w.heap.size + 1) D) := by rw [← hu]; exact s3
    clear HCT r2 q2 r2' r3 q3 hDs hD1 l3 s3 b02 t23 b03 hgg hD hu hml hlr b2 z2
    go_wp2
    refine bodyPost_ret (results_F3 rfl _ _ (w.heap.size + 1) D HD.out.2 rfl HR4.out) rfl ⟨HB4.out, ?_⟩
    rw [if_pos HE.out]
    exact ⟨u, by rw [← HD.out.1, ← HSS.out]; rfl, by rw [← HM.out.1]; exact HL4.out⟩
  · obtain ⟨E, hEE⟩ : ∃ E, E = chkV f := ⟨_, rfl⟩
    rw [sayV, if_neg hE, ← hEE] at CS
    have hE0 : ¬ ((E : Int) = 0) := by omega
    have CS2 : Hid (Calls Tryd.prog 4 #[.agg F] W0 fun e w' => e = .returned (.tuple #[.string ⟨#[]⟩, .int .i64 (E : Int)]) ∧ Below W0.heap.size W0 w') := CS
    clear CS
    have HE : Hid (¬ chkV f = 0) := hE
    clear hF hFs hF1 hW0 b0 r0 q0 hk hx hv0 k0 x0 ls0 hE hEE
    go_enter Tryd.func5, Tryd.ntmps5
    go_wp2_with fail
    rw [HW0.out]
    refine Calls.mono CS2.out ?_
    rintro e W1 ⟨rfl, b1⟩
    have r1 : W1.heap[w.heap.size]? = some (.cells F 26 (0, 0)) := (b1.block _ (by have := HR.out.2.2.2.2; omega)).trans HR.out.1
    have q1 : W1.heap[w.heap.size + 1]? = some (.cells zF 26 (0, 0)) := (b1.block _ (by have := HR.out.2.2.2.2; omega)).trans HR.out.2.1
    have l1 := ldF W1 w.heap.size F HP.out.2.1 r1
    have s1 := stF W1 (w.heap.size + 1) zF F zF_size HP.out.2.1 HP.out.2.2 q1
    have HR4 : Hid ((W1.setRow (w.heap.size + 1) F).heap[w.heap.size + 1]? = some (.cells F 26 (0, 0))) := setRow_heap _ _ _ _ _ _ q1
    have HB4 : Hid (Below w.heap.size w (W1.setRow (w.heap.size + 1) F)) := below_setRow (HR.out.2.2.1.trans (b1.mono HR.out.2.2.1.size)) (by omega) _
    clear CS2 b1 r1 q1 l0 l0' HW0
    go_wp2
    refine bodyPost_ret (results_F3 rfl _ _ (w.heap.size + 1) F HP.out.2.1 rfl HR4.out) rfl ⟨HB4.out, ?_⟩
    rw [if_neg HE.out, ← HP.out.1]
    rfl
end Go.Proofs.YtffghlbgbfhfdaaDoor
