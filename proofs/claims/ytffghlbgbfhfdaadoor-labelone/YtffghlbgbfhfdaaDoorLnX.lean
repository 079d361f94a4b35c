/- LabelOne: the walk. -/
import Derived.Test.YtffghlbgbfhfdaaDoorLnE
import Derived.Test.YtffghlbgbfhfdaaDoorLnN
namespace Go.Proofs.YtffghlbgbfhfdaaDoor
open Go.RowKit Go.Shelf Go.Sort
/-- The first finger. -/
def hd0 : Fg := { k := 4, v := .slice none 0 0, L := [], self := false, out := ⟨#[]⟩, ix := 7, sm := z32, nm := ⟨#[120]⟩, hl := rfl, hb := fun x hx => by rw [List.eq_of_mem_replicate hx]; decide, hk := by decide, hix := by decide, hn := Nat.zero_le _, hL := fun x hx => by cases hx }
def litO : ByteArray := ⟨#[109, 101, 109, 98, 101, 114, 58, 55, 58, 115, 104, 97, 50, 53, 54, 58, 48, 48, 48, 48, 48, 48, 48, 48, 48, 48, 48, 48, 48, 48, 48, 48, 48, 48, 48, 48, 48, 48, 48, 48, 48, 48, 48, 48, 48, 48, 48, 48, 48, 48, 48, 48, 48, 48, 48, 48, 48, 48, 48, 48, 48, 48, 48, 48, 48, 48, 48, 48, 48, 48, 48, 48, 48, 48, 48, 48, 48, 48, 48, 48, 58, 47, 103, 114, 97, 102, 116, 47, 115, 116, 111, 114, 101, 58, 120]⟩
set_option maxRecDepth 100000 in
theorem hd0_say : sayT hd0 = litO := by decide +kernel
set_option maxRecDepth 100000 in
theorem hd0_chk : chkV hd0 = 0 := by decide +kernel
set_option maxRecDepth 100000 in
theorem hd0_built : Tryd.prog.built 26 [(0, .int .i64 4), (4, .int .i64 7), (6, .string ⟨#[120]⟩)] = some (fing hd0) := by kernel_rfl
theorem run_buildH (w : World) : (buildF #[(0, .int .i64 4), (4, .int .i64 7), (6, .string ⟨#[120]⟩)]).run Tryd.prog w = .ok (.agg (fing hd0)) w := run_build w 26 _ _ hd0_built
/-- What goes on holding. -/
structure Onw (f g : Fg) (FA FB : Array Value) (w W : World) : Prop where
  ra : W.heap[w.heap.size]? = some (.cells FA 26 (0, 0))
  rb : W.heap[w.heap.size + 1]? = some (.cells FB 26 (0, 0))
  tk : Tk W
  tx : Tx W
  lf : Ls f.v f.L W
  lg : Ls g.v g.L W
  bel : Below w.heap.size w W
theorem Onw.below {f g : Fg} {FA FB : Array Value} {w W W' : World} (h : Onw f g FA FB w W) (b : Below W.heap.size W W') : Onw f g FA FB w W' :=
  ⟨(b.block _ (Array.getElem?_eq_some_iff.1 h.ra).1).trans h.ra, (b.block _ (Array.getElem?_eq_some_iff.1 h.rb).1).trans h.rb, h.tk.below b h.tk.sz, h.tx.below b h.tx.sz, h.lf.below b, h.lg.below b, h.bel.trans (b.mono h.bel.size)⟩
attribute [local go_sem ↓] toFl to26s toBuildF
set_option maxRecDepth 100000 in
set_option maxHeartbeats 6400000 in
theorem one_any (f g : Fg) (w : World) (hk : Tk w) (hx : Tx w) (hf : Ls f.v f.L w) (hg : Ls g.v g.L w) :
    Calls Tryd.prog 3 #[.agg (fing f), .agg (fing g)] w fun e w' => e = .returned (.bool true) ∧ Below w.heap.size w w' := by
  obtain ⟨FA, hFA⟩ : ∃ FA, FA = fing f := ⟨_, rfl⟩
  obtain ⟨FB, hFB⟩ : ∃ FB, FB = fing g := ⟨_, rfl⟩
  obtain ⟨W0, hW0⟩ : ∃ W0, (w.alloc (.cells FA 26)).alloc (.cells FB 26) = W0 := ⟨_, rfl⟩
  have b0 : Below w.heap.size w W0 := by rw [← hW0]; exact ((Below.refl _ w).alloc (Nat.le_refl _) _).alloc (by simp) _
  have O0 : Onw f g FA FB w W0 := ⟨by rw [← hW0]; exact heap_alloc2_old _ _ _, by rw [← hW0]; exact heap_alloc2_new _ _ _, hk.below b0 hk.sz, hx.below b0 hx.sz, hf.below b0, hg.below b0, b0⟩
  have z0 : W0.heap.size = w.heap.size + 2 := by rw [← hW0]; simp
  obtain ⟨oa, ca, hva, -, -⟩ := hf.form
  obtain ⟨ob, cb, hvb, -, -⟩ := hg.form
  have HPA : Hid (FA = fing f ∧ FA.size = 38 ∧ FA.all (·.oneCell') = true) := ⟨hFA, by rw [hFA]; exact fing_size f, by rw [hFA, fing_fgA, hva]; exact fgA_one _ _ _ _ _ _ _ _ _⟩
  have HPB : Hid (FB = fing g ∧ FB.size = 38 ∧ FB.all (·.oneCell') = true) := ⟨hFB, by rw [hFB]; exact fing_size g, by rw [hFB, fing_fgA, hvb]; exact fgA_one _ _ _ _ _ _ _ _ _⟩
  obtain ⟨HF, hHF⟩ : ∃ HF, HF = fing hd0 := ⟨_, rfl⟩
  have hHs : HF.size = 38 := by rw [hHF]; exact fing_size hd0
  have hH1 : HF.all (·.oneCell') = true := by rw [hHF, fing_fgA]; exact fgA_one _ _ _ _ _ _ _ _ _
  have bH : ∀ W, (buildF #[(0, .int .i64 4), (4, .int .i64 7), (6, .string ⟨#[120]⟩)]).run Tryd.prog W = .ok (.agg HF) W := fun W => by rw [hHF]; exact run_buildH W
  obtain ⟨W1, s1, r1, b1⟩ := layF W0 HF hHs hH1
  rw [z0] at s1 r1
  have l1 := ldF W1 (w.heap.size + 2) HF hHs r1
  have s1' : (storeR 26 (.pointer (some ⟨w.heap.size + 2, 0, none⟩)) (.agg HF)).run Tryd.prog (((w.alloc (.cells FA 26)).alloc (.cells FB 26)).alloc (.cells #[.int .i64 0, .slice none 0 0, .bool false, .string ⟨#[]⟩, .int .i64 0, .int .u8 0, .int .u8 0, .int .u8 0, .int .u8 0, .int .u8 0, .int .u8 0, .int .u8 0, .int .u8 0, .int .u8 0, .int .u8 0, .int .u8 0, .int .u8 0, .int .u8 0, .int .u8 0, .int .u8 0, .int .u8 0, .int .u8 0, .int .u8 0, .int .u8 0, .int .u8 0, .int .u8 0, .int .u8 0, .int .u8 0, .int .u8 0, .int .u8 0, .int .u8 0, .int .u8 0, .int .u8 0, .int .u8 0, .int .u8 0, .int .u8 0, .int .u8 0, .string ⟨#[]⟩] 26)) = .ok () W1 := by rw [hW0]; exact s1
  have O1 : Onw f g FA FB w W1 := O0.below b1
  have CS : Hid (Calls Tryd.prog 4 #[.agg HF] W1 fun e w' => e = .returned (.tuple #[.string litO, .int .i64 0]) ∧ Below W1.heap.size W1 w') := by
    have := say_any hd0 W1 O1.tk O1.tx (.inl ⟨rfl, none, 0, rfl, Nat.zero_le _, fun _ => rfl⟩)
    rw [sayV, if_pos hd0_chk, hd0_say, ← hHF] at this
    exact this
  have hlit : (litO.toList == ([109, 101, 109, 98, 101, 114, 58, 55, 58, 115, 104, 97, 50, 53, 54, 58, 48, 48, 48, 48, 48, 48, 48, 48, 48, 48, 48, 48, 48, 48, 48, 48, 48, 48, 48, 48, 48, 48, 48, 48, 48, 48, 48, 48, 48, 48, 48, 48, 48, 48, 48, 48, 48, 48, 48, 48, 48, 48, 48, 48, 48, 48, 48, 48, 48, 48, 48, 48, 48, 48, 48, 48, 48, 48, 48, 48, 48, 48, 48, 48, 58, 47, 103, 114, 97, 102, 116, 47, 115, 116, 111, 114, 101, 58, 120] : List UInt8)) = true := by decide +kernel
  have HO1 : Hid (Onw f g FA FB w W1) := O1
  rw [← hFA, ← hFB]
  clear hFA hFB hW0 b0 O0 z0 hva hvb hHF hHs hH1 s1 r1 b1 O1 hk hx hf hg
  go_enter Tryd.func3, Tryd.ntmps3
  go_wp2_with fail
  refine Calls.mono CS.out ?_
  rintro e W2 ⟨rfl, b2⟩
  have HO2 : Hid (Onw f g FA FB w W2) := HO1.out.below b2
  have l2 := ldF W2 w.heap.size FA HPA.out.2.1 HO2.out.ra
  have CD : Hid (Calls Tryd.prog 5 #[.agg FA] W2 (SdP f W2)) := by rw [HPA.out.1]; exact said_any f W2 HO2.out.tk HO2.out.tx HO2.out.lf
  clear CS b2 HO1 l1 s1' bH
  go_wp2_with fail
  clear l2
  by_cases hE : chkV f = 0
  case neg =>
    refine Calls.mono CD.out ?_
    rintro e W3 ⟨b3, h3⟩
    rw [if_neg hE, ← HPA.out.1] at h3
    subst h3
    have O3 : Onw f g FA FB w W3 := HO2.out.below b3
    obtain ⟨W4, s4, r4, b4⟩ := layF W3 FA HPA.out.2.1 HPA.out.2.2
    have HO4 : Hid (Onw f g FA FB w W4) := O3.below b4
    have l4 := ldF W4 w.heap.size FA HPA.out.2.1 HO4.out.ra
    obtain ⟨E, hEE⟩ : ∃ E, E = chkV f := ⟨_, rfl⟩
    have C4 : Hid (Calls Tryd.prog 4 #[.agg FA] W4 fun e w' => e = .returned (.tuple #[.string ⟨#[]⟩, .int .i64 (E : Int)]) ∧ Below W4.heap.size W4 w') := by
      have := say_any f W4 HO4.out.tk HO4.out.tx HO4.out.lf
      rw [sayV, if_neg hE, ← hEE, ← HPA.out.1] at this
      exact this
    have hE0 : ¬ ((E : Int) = 0) := by omega
    clear CD b3 O3 r4 b4 hE hEE HO2
    go_wp2_with fail
    refine Calls.mono C4.out ?_
    rintro e W5 ⟨rfl, b5⟩
    have HB5 : Hid (Below w.heap.size w W5) := HO4.out.bel.trans (b5.mono HO4.out.bel.size)
    clear C4 b5 HO4 l4 s4
    go_wp2
    go_ret
    have hE1 : ((E : Int) != 0) = true := bne_iff_ne.2 hE0
    exact ⟨by show Ending.returned (.bool ((E : Int) != 0)) = _; rw [hE1], HB5.out⟩
  have okf := ok_of hE
  have HOF : Hid (Ok f) := okf
  refine Calls.mono CD.out ?_
  rintro e W3 ⟨b3, h3⟩
  rw [if_pos hE] at h3
  obtain ⟨va, rfl, lsa⟩ := h3
  obtain ⟨s, hs⟩ : ∃ s, s = sayT f := ⟨_, rfl⟩
  obtain ⟨DA, hDA⟩ : ∃ DA, DA = fing (reS f va) := ⟨_, rfl⟩
  rw [← hs, ← hDA]
  have hDs : DA.size = 38 := by rw [hDA]; exact fing_size _
  obtain ⟨o1, c1, hv1, -, -⟩ := lsa.form
  have hD1 : DA.all (·.oneCell') = true := by rw [hDA, reS_fing, hv1]; exact fgA_one _ _ _ _ _ _ _ _ _
  have O3 : Onw f g FA FB w W3 := HO2.out.below b3
  obtain ⟨W4, s4, r4, b4⟩ := layF W3 DA hDs hD1
  have HO4 : Hid (Onw f g FA FB w W4) := O3.below b4
  have HA4 : Hid (W4.heap[W3.heap.size]? = some (.cells DA 26 (0, 0)) ∧ Ls va (dd (srt f.L)) W4) := ⟨r4, lsa.below b4⟩
  have CH : Hid (Calls Tryd.prog 6 #[.string s] W4 fun e w' => ∃ v, e = .returned (.tuple #[.agg (fgA f.k v f.self f.out f.ix f.sm f.nm), .int .i64 0]) ∧ w'.ownsRow W4.heap.size 60 21 v (dd (srt f.L)).length (cells (dd (srt f.L))) ∧ Below W4.heap.size W4 w') := by
    rw [hs]
    exact hear_ok f okf W4 HO4.out.tk HO4.out.tx
  have HSA : Hid (s = sayT f ∧ DA = fing (reS f va) ∧ DA.size = 38) := ⟨hs, hDA, hDs⟩
  have HLN : Hid ((dd (srt f.L)).length ≤ 256) := (dd_ok okf).1
  clear CD b3 lsa hs hDA hDs hv1 hD1 O3 r4 b4 okf hE HO2
  go_wp2_with fail
  refine Calls.mono CH.out ?_
  rintro e W5 ⟨vh, rfl, own, b5⟩
  obtain ⟨DH, hDH⟩ : ∃ DH, DH = fing (reS f vh) := ⟨_, rfl⟩
  rw [← reS_fing, ← hDH]
  have hHs : DH.size = 38 := by rw [hDH]; exact fing_size _
  obtain ⟨o2, c2, hv2, -, -⟩ := (own_Ls own).form
  have hH1 : DH.all (·.oneCell') = true := by rw [hDH, reS_fing, hv2]; exact fgA_one _ _ _ _ _ _ _ _ _
  have O5 : Onw f g FA FB w W5 := HO4.out.below b5
  obtain ⟨W6, s6, r6, b6⟩ := layF W5 DH hHs hH1
  have HO6 : Hid (Onw f g FA FB w W6) := O5.below b6
  have b46 : Below W4.heap.size W4 W6 := b5.trans (b6.mono b5.size)
  have HA6 : Hid (W6.heap[W3.heap.size]? = some (.cells DA 26 (0, 0)) ∧ Ls va (dd (srt f.L)) W6) := ⟨(b46.block _ (Array.getElem?_eq_some_iff.1 HA4.out.1).1).trans HA4.out.1, HA4.out.2.below b46⟩
  have l6 := ldF W6 W5.heap.size DH hHs r6
  have k6 := ldF W6 W3.heap.size DA HSA.out.2.2 HA6.out.1
  have C6 : Hid (Calls Tryd.prog 7 #[.agg DH, .agg DA] W6 fun e w' => e = .returned (.bool true) ∧ Below W6.heap.size W6 w') := by
    rw [hDH, HSA.out.2.1]
    have hl : (dd (srt f.L)).length ≤ 1099511627776 := by have := HLN.out; omega
    refine (sameF_any (reS f vh) (reS f va) W6 ((own_Ls own).below b6) HA6.out.2 hl hl).mono ?_
    rintro e w' ⟨⟨r, rfl, hr⟩, hb⟩
    have : r = true := hr.2 ⟨rfl, rfl, rfl, rfl, rfl, rfl, rfl⟩
    rw [this]
    exact ⟨rfl, hb⟩
  clear CH own b5 hDH hHs hv2 hH1 O5 r6 b6 b46 HO4 HA4 s4
  go_wp2_with fail
  refine Calls.mono C6.out ?_
  rintro e W7 ⟨rfl, b7⟩
  have HO7 : Hid (Onw f g FA FB w W7) := HO6.out.below b7
  have HA7 : Hid (W7.heap[W3.heap.size]? = some (.cells DA 26 (0, 0)) ∧ Ls va (dd (srt f.L)) W7) := ⟨(b7.block _ (Array.getElem?_eq_some_iff.1 HA6.out.1).1).trans HA6.out.1, HA6.out.2.below b7⟩
  have l7 := ldF W7 (w.heap.size + 1) FB HPB.out.2.1 HO7.out.rb
  have C7 : Hid (Calls Tryd.prog 5 #[.agg FB] W7 (SdP g W7)) := by rw [HPB.out.1]; exact said_any g W7 HO7.out.tk HO7.out.tx HO7.out.lg
  clear C6 b7 HO6 HA6 l6 k6 s6
  go_wp2_with fail
  clear l7
  by_cases hG : chkV g = 0
  case neg =>
    refine Calls.mono C7.out ?_
    rintro e W8 ⟨b8, h8⟩
    rw [if_neg hG, ← HPB.out.1] at h8
    subst h8
    have O8 : Onw f g FA FB w W8 := HO7.out.below b8
    obtain ⟨W9, s9, r9, b9⟩ := layF W8 FB HPB.out.2.1 HPB.out.2.2
    have HB9 : Hid (Below w.heap.size w W9) := (O8.below b9).bel
    clear C7 b8 O8 r9 b9 hG HO7 HA7
    go_wp2
    go_ret
    exact ⟨rfl, HB9.out⟩
  have okg := ok_of hG
  refine Calls.mono C7.out ?_
  rintro e W8 ⟨b8, h8⟩
  rw [if_pos hG] at h8
  obtain ⟨vb, rfl, lsb⟩ := h8
  obtain ⟨t, ht⟩ : ∃ t, t = sayT g := ⟨_, rfl⟩
  obtain ⟨DB, hDB⟩ : ∃ DB, DB = fing (reS g vb) := ⟨_, rfl⟩
  rw [← ht, ← hDB]
  have hBs : DB.size = 38 := by rw [hDB]; exact fing_size _
  obtain ⟨o3, c3, hv3, -, -⟩ := lsb.form
  have hB1 : DB.all (·.oneCell') = true := by rw [hDB, reS_fing, hv3]; exact fgA_one _ _ _ _ _ _ _ _ _
  have O8 : Onw f g FA FB w W8 := HO7.out.below b8
  obtain ⟨W9, s9, r9, b9⟩ := layF W8 DB hBs hB1
  have HO9 : Hid (Onw f g FA FB w W9) := O8.below b9
  have b79 : Below W7.heap.size W7 W9 := b8.trans (b9.mono b8.size)
  have r9a : W9.heap[W3.heap.size]? = some (.cells DA 26 (0, 0)) := (b79.block _ (Array.getElem?_eq_some_iff.1 HA7.out.1).1).trans HA7.out.1
  have l9 := ldF W9 W3.heap.size DA HSA.out.2.2 r9a
  have k9 := ldF W9 W8.heap.size DB hBs r9
  have C9 : Hid (Calls Tryd.prog 7 #[.agg DA, .agg DB] W9 fun e w' => e = .returned (.bool (s.toList == t.toList)) ∧ Below W9.heap.size W9 w') := by
    rw [hDB, HSA.out.2.1]
    have hl : (dd (srt f.L)).length ≤ 1099511627776 := by have := HLN.out; omega
    have hl2 : (dd (srt g.L)).length ≤ 1099511627776 := by have := (dd_ok okg).1; omega
    refine (sameF_any (reS f va) (reS g vb) W9 (HA7.out.2.below b79) (lsb.below b9) hl hl2).mono ?_
    rintro e w' ⟨⟨r, rfl, hr⟩, hb⟩
    have key : r = (s.toList == t.toList) := by
      by_cases he : s = t
      · have h1 : r = true := hr.2 (say_inj HOF.out okg (by rw [← HSA.out.1, ← ht]; exact he))
        rw [h1, he]
        simp
      · have h1 : r = false := by
          cases r with
          | false => rfl
          | true => exact absurd (by rw [HSA.out.1, ht]; exact say_same (hr.1 rfl)) he
        rw [h1, beq_off (fun e => he (toList_inj.1 e))]
    rw [key]
    exact ⟨rfl, hb⟩
  obtain ⟨bb, hbb⟩ : ∃ bb, bb = (s.toList == t.toList) := ⟨_, rfl⟩
  rw [← hbb] at C9
  have hbb' := hbb.symm
  clear C7 b8 lsb ht hDB hBs hv3 hB1 O8 r9 b9 b79 r9a HO7 HA7 okg hG hbb
  go_wp2_with fail
  refine Calls.mono C9.out ?_
  rintro e W10 ⟨rfl, b10⟩
  have HB10 : Hid (Below w.heap.size w W10) := HO9.out.bel.trans (b10.mono HO9.out.bel.size)
  clear C9 b10 HO9 l9 k9 s9
  go_wp2
  go_ret
  exact ⟨by cases bb <;> rfl, HB10.out⟩
end Go.Proofs.YtffghlbgbfhfdaaDoor
