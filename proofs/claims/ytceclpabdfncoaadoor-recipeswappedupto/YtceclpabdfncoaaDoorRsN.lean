/- apart. -/
import Derived.Test.YtceclpabdfncoaaDoorRsI
namespace Go.Proofs.YtceclpabdfncoaaDoor.Re
open Go.RowKit
/-- The changes' box alone. -/
structure Ax (W : World) (lv : Value) (least : Nat) (wr : World) : Prop where
  bel : Below W.heap.size W wr
  box : wr.heap[W.heap.size]? = some (.cells #[lv, .int .i64 (least : Int)] 53 (0, 0))
theorem Ax.below {W : World} {lv : Value} {least : Nat} {wr w' : World} (h : Ax W lv least wr) (hb : Below wr.heap.size wr w') : Ax W lv least w' := ⟨h.bel.trans (hb.mono h.bel.size), (hb.block _ (Array.getElem?_eq_some_iff.1 h.box).1).trans h.box⟩
theorem Ax.sz {W : World} {lv : Value} {least : Nat} {wr : World} (h : Ax W lv least wr) : W.heap.size < wr.heap.size := (Array.getElem?_eq_some_iff.1 h.box).1
theorem bel_dn (w : World) (k : Nat) : Below w.heap.size w (w.drewN k) := ⟨rfl, rfl, rfl, Nat.le_refl _, fun _ _ => rfl⟩
/-- What apart leaves. -/
def TelP (W : World) (p : Prop) (e : Ending) (w' : World) : Prop := ∃ b : Bool, e = .returned (.bool b) ∧ (b = true ↔ p) ∧ Below W.heap.size W w'
theorem bl_nil {s : S} : bl s = [] ↔ s = ⟨#[]⟩ := ⟨fun h => bl_inj h, fun h => by rw [h]; rfl⟩
theorem isE {x : S} (h : ¬ x = ⟨#[]⟩) : (ByteArray.toList x).isEmpty = false := by
  have := tl_ne h
  rw [bl_tl]
  rw [bl_tl, bl_tl] at this
  cases hq : bl x with
  | nil => rw [hq] at this; cases this
  | cons => rfl
section
attribute [local go_sem ↓] toStC toBdC toLdC toLdH
set_option maxRecDepth 100000 in
set_option maxHeartbeats 3200000 in
theorem apart_any (W : World) (lv : Value) (C : List Pai) (least : Nat) (h : Chs W lv C least) : Calls Tryd.prog 13 #[.agg #[lv, .int .i64 (least : Int)]] W (TelP W (Apt (C.map (·.1)))) := by
  obtain ⟨oa, cap, hlv⟩ := h.ls.form
  obtain ⟨n, hn⟩ : ∃ n, (C.map eR).length = n := ⟨_, rfl⟩
  rw [hn] at hlv
  subst hlv
  rw [List.length_map] at hn
  obtain ⟨B0, hB0⟩ : ∃ B, W.alloc (.cells #[.slice oa n cap, .int .i64 (least : Int)] 53) = B := ⟨_, rfl⟩
  have f0 : Ax W (.slice oa n cap) least B0 := by
    rw [← hB0]
    exact ⟨(Below.refl _ W).alloc (Nat.le_refl _) _, heap_alloc_new _ _⟩
  have HF0 : Hid (Ax W (.slice oa n cap) least B0) := f0
  have HB0 : Hid (_ = B0) := hB0
  have HEL : Hid (∀ (i : Nat) x, C[i]? = some x → ∃ g o, oa = some ⟨g, o, none⟩ ∧ g < W.heap.size ∧ W.rangeAt g (o + i * 2) (eR x).toList) := fun i x hx => h.ls.at i _ (by rw [List.getElem?_map, hx]; rfl)
  have HCH : Hid (Chs W (.slice oa n cap) C least) := h
  have HG : Hid (C.length = n ∧ n ≤ 10000000) := ⟨hn, by have := h.len; omega⟩
  have k0 : B0.cell? ⟨W.heap.size, 0, none⟩ = some (.slice oa n cap) := c1 f0.box rfl
  have SN : ∀ (w : World) (a b : S), _ := fun w a b => st_Cnew w a b
  rw [← hB0] at k0
  clear h hn hB0 f0
  go_enter Tryd.func13, Tryd.ntmps13
  go_wp2_with fail
  rw [HB0.out]
  clear k0
  go_loopw [3, 4, 13] (fun _ _ iv wr => ∃ (i : Nat), iv = .int .i64 (i : Int) ∧ Hid (i ≤ n ∧ Ax W (.slice oa n cap) least wr ∧ Nb C i)) (fun _ _ iv _ => n + 1 - (intOf iv).toNat)
  case atStart => exact ⟨0, rfl, Nat.zero_le _, HF0.out, fun i x q => by omega⟩
  case round =>
    obtain ⟨i, rfl, HI⟩ := hrel
    by_cases hi : i < n
    · obtain ⟨ile, ax, nb⟩ := HI.out
      have hi0 : (0 : Int) ≤ (i : Int) := by omega
      have hi1 : (i : Int) < (n : Int) := by omega
      have wi : IntKind.i64.wrap ((i : Int) + 1) = (i : Int) + 1 := by rw [IntKind.wrap_i64]; have := HG.out.2; omega
      obtain ⟨x, hx⟩ : ∃ x, C[i]? = some x := ⟨_, List.getElem?_eq_getElem (by have := HG.out.1; omega)⟩
      obtain ⟨g, o, rfl, hg, rr⟩ := HEL.out i x hx
      have lC := ld_C wr g (o + i * 2) x (range_block rr (ax.bel.block _ hg))
      have bV : Below wr.heap.size wr (wr.alloc (.cells #[.string x.1, .string x.2] 66)) := (Below.refl _ wr).alloc (Nat.le_refl _) _
      have axV := ax.below bV
      have cx : ∀ k, ((wr.alloc (.cells #[.string x.1, .string x.2] 66)).drewN k).cell? ⟨wr.heap.size, 0, none⟩ = some (.string x.1) := fun k => c1 (w := wr.alloc (.cells #[.string x.1, .string x.2] 66)) (heap_alloc_new _ _) rfl
      have cb : ∀ k, ((wr.alloc (.cells #[.string x.1, .string x.2] 66)).drewN k).cell? ⟨W.heap.size, 0, none⟩ = some (.slice (some ⟨g, o, none⟩) n cap) := fun k => c1 (axV.below (bel_dn _ k)).box rfl
      have HL : Hid (i < n ∧ C[i]? = some x ∧ Nb C i) := ⟨hi, hx, nb⟩
      have HA : Hid (∀ k, Ax W (.slice (some ⟨g, o, none⟩) n cap) least ((wr.alloc (.cells #[.string x.1, .string x.2] 66)).drewN k)) := fun k => axV.below (bel_dn _ k)
      obtain ⟨x1, x2⟩ := x
      unfold eR at lC
      by_cases hx0 : x1 = ⟨#[]⟩
      · have HBD : Hid (¬ Apt (C.map (·.1))) := not_nb hx (.inl (bl_nil.2 hx0))
        subst hx0
        clear hi ile ax nb hx hg rr bV axV
        go_wp2_with fail
        go_quiet (fail)
        go_wp2_with fail
        go_ret
        exact ⟨false, rfl, ⟨fun q => (by cases q), fun q => absurd q HBD.out⟩, (HA.out _).bel⟩
      · have hx1 := isE hx0
        have HX0 : Hid (bl x1 ≠ []) := fun q => hx0 (bl_nil.1 q)
        by_cases hz : i = 0
        · have hd : decide (0 < i) = false := decide_eq_false (by omega)
          have HNB : Hid (Nb C (i + 1)) := fun j y hj hy => by
            by_cases q : j = i
            · subst q
              obtain rfl : (x1, x2) = y := Option.some.inj (HL.out.2.1.symm.trans hy)
              exact ⟨HX0.out, fun k z e => by omega⟩
            · exact HL.out.2.2 j y (by omega) hy
          clear hi ile ax nb hx hg rr bV axV hx0 hz
          go_wp2_with fail
          go_quiet (fail)
          go_wp2_with fail
          go_roundw
          case rel => exact ⟨i + 1, by go_num, HL.out.1, HA.out _, HNB.out⟩
          case measure => have := HL.out.1; simp [intOf]; omega
        · have hd : decide (0 < i) = true := decide_eq_true (by omega)
          obtain ⟨j, hij⟩ : ∃ j, i = j + 1 := ⟨i - 1, by omega⟩
          obtain ⟨y, hy⟩ : ∃ y, C[j]? = some y := ⟨_, List.getElem?_eq_getElem (by have := HG.out.1; omega)⟩
          obtain ⟨g', o', hgo, hg', rr'⟩ := HEL.out j y hy
          injection hgo with hgo
          injection hgo with e1 e2
          subst e1 e2
          have wj : IntKind.i64.wrap ((i : Int) - 1) = (j : Int) := by rw [IntKind.wrap_i64]; have := HG.out.2; omega
          have hj0 : (0 : Int) ≤ (j : Int) := by omega
          have hj1 : (j : Int) < (n : Int) := by omega
          have cy : ∀ k, ((wr.alloc (.cells #[.string x1, .string x2] 66)).drewN k).cell? ⟨g, o + j * 2, none⟩ = some (.string y.1) := fun k => by
            have := range_block rr' ((HA.out k).bel.block _ hg) 0 (.string y.1) rfl
            exact this
          have HP : Hid (∀ w, Calls Tryd.prog 23 #[.string x1, .string y.1] w fun e w' => e = .returned (.bool ((bl y.1).isPrefixOf (bl x1))) ∧ w' = w) := fun w => hasp_any x1 y.1 w
          have HIJ : Hid (i = j + 1 ∧ C[j]? = some y) := ⟨hij, hy⟩
          obtain ⟨y1, y2⟩ := y
          cases hb : (bl y1).isPrefixOf (bl x1) with
          | true =>
            simp only [hb] at HP
            have HBD : Hid (¬ Apt (C.map (·.1))) := not_nb hx (.inr ⟨j, (y1, y2), hij, hy, List.isPrefixOf_iff_prefix.1 hb⟩)
            clear hi ile ax nb hx hg rr bV axV hx0 hz hij hy rr' hg' hb
            go_wp2_with fail
            go_quiet ((go_at_call 23; exact Calls.quiet_of_same (HP.out _)))
            go_wp2_with fail
            go_ret
            exact ⟨false, rfl, ⟨fun q => (by cases q), fun q => absurd q HBD.out⟩, (HA.out _).bel⟩
          | false =>
            simp only [hb] at HP
            have HNB : Hid (Nb C (i + 1)) := fun m z hm hmz => by
              by_cases q : m = i
              · subst q
                obtain rfl : (x1, x2) = z := Option.some.inj (HL.out.2.1.symm.trans hmz)
                refine ⟨HX0.out, fun k u e hu hpre => ?_⟩
                obtain rfl : k = j := by have := HIJ.out.1; omega
                obtain rfl : (y1, y2) = u := Option.some.inj (HIJ.out.2.symm.trans hu)
                rw [List.isPrefixOf_iff_prefix.2 hpre] at hb
                cases hb
              · exact HL.out.2.2 m z (by omega) hmz
            clear hi ile ax nb hx hg rr bV axV hx0 hz hij hy rr' hg' hb
            go_wp2_with fail
            go_quiet ((go_at_call 23; exact Calls.quiet_of_same (HP.out _)))
            go_wp2_with fail
            go_roundw
            case rel => exact ⟨i + 1, by go_num, HL.out.1, HA.out _, HNB.out⟩
            case measure => have := HL.out.1; simp [intOf]; omega
    · obtain ⟨ile, ax, nb⟩ := HI.out
      have hi1 : ¬ ((i : Int) < (n : Int)) := by omega
      obtain rfl : i = n := by omega
      have hnb : Nb C C.length := by rw [HG.out.1]; exact nb
      have hpf : PF C := pf_of HCH.out.sd hnb
      have hne : NE C := fun x hx => by
        obtain ⟨j, hj⟩ := List.mem_iff_getElem?.1 hx
        exact (hnb j x (List.getElem?_eq_some_iff.1 hj).1 hj).1
      have k0 : wr.cell? ⟨W.heap.size, 0, none⟩ = some (.slice oa i cap) := c1 ax.box rfl
      have HPF : Hid (PF C ∧ NE C ∧ Ax W (.slice oa i cap) least wr) := ⟨hpf, hne, ax⟩
      have HCs : Hid (∀ (s : S) w, s.size ≤ 2000000 → Below W.heap.size W w → Calls Tryd.prog 24 #[.agg #[.slice oa i cap, .int .i64 (least : Int)], .string s] w (FiP w C (bl s))) := fun s w hs hw => first_any w _ C least (HCH.out.below hw) hpf hne s (by omega)
      clear hi ile ax nb hnb hpf hne HI
      go_wp2_with fail
      clear k0 hi1
      go_loopw [6, 7, 8, 9, 41] (fun _ _ _ _ iv wr => ∃ (m : Nat), iv = .int .i64 (m : Int) ∧ Hid (m ≤ i ∧ Ax W (.slice oa i cap) least wr ∧ ∀ j x, j < m → C[j]? = some x → ∀ k, hit C (((bl x.1).drop 1).drop k) = none)) (fun _ _ _ _ iv _ => i + 1 - (intOf iv).toNat)
      case atStart => exact ⟨0, rfl, Nat.zero_le _, HPF.out.2.2, fun j x q => by omega⟩
      case round =>
        obtain ⟨m, rfl, HI⟩ := hrel
        by_cases hm : m < i
        · obtain ⟨mle, ax, hall⟩ := HI.out
          have hm0 : (0 : Int) ≤ (m : Int) := by omega
          have hm1 : (m : Int) < (i : Int) := by omega
          have wm : IntKind.i64.wrap ((m : Int) + 1) = (m : Int) + 1 := by rw [IntKind.wrap_i64]; have := HG.out.2; omega
          obtain ⟨x, hx⟩ : ∃ x, C[m]? = some x := ⟨_, List.getElem?_eq_getElem (by have := HG.out.1; omega)⟩
          obtain ⟨g, o, rfl, hg, rr⟩ := HEL.out m x hx
          have lC := ld_C wr g (o + m * 2) x (range_block rr (ax.bel.block _ hg))
          have hxm := List.mem_of_getElem? hx
          have hpos : 0 < x.1.size := by rw [← bl_len]; exact List.length_pos_iff.2 (HPF.out.2.1 x hxm)
          have hsz := (HCH.out.sz x hxm).1
          have axV := ax.below ((Below.refl _ wr).alloc (Nat.le_refl _) (.cells #[.string x.1, .string x.2] 66))
          have axE := axV.below (below_drw _)
          have axE2 := axV.below (below_dr ((Below.refl _ (wr.alloc (.cells #[.string x.1, .string x.2] 66))).alloc (Nat.le_refl _) (.cells #[.string ⟨#[]⟩, .string ⟨#[]⟩] 66)))
          have lE := ld_H _ W.heap.size _ rfl axE.box
          have lE2 := ld_H _ W.heap.size _ rfl axE2.box
          have cE : (wr.alloc (.cells #[.string x.1, .string x.2] 66)).drew.cell? ⟨wr.heap.size, 0, none⟩ = some (.string x.1) := c1 (w := wr.alloc (.cells #[.string x.1, .string x.2] 66)) (heap_alloc_new _ _) rfl
          have cE2 : ((wr.alloc (.cells #[.string x.1, .string x.2] 66)).alloc (.cells #[.string ⟨#[]⟩, .string ⟨#[]⟩] 66)).drew.cell? ⟨wr.heap.size, 0, none⟩ = some (.string x.1) := c1 (w := (wr.alloc (.cells #[.string x.1, .string x.2] 66)).alloc (.cells #[.string ⟨#[]⟩, .string ⟨#[]⟩] 66)) ((alo _ _ (by simp)).trans (heap_alloc_new _ _)) rfl
          have hbl : bl (x.1.extract 1 x.1.size) = (bl x.1).drop 1 := by rw [bl_ext, List.take_of_length_le (by rw [bl_len]; exact Nat.le_refl _)]
          have hez : (x.1.extract 1 x.1.size).size ≤ 2000000 := by rw [← bl_len, hbl, List.length_drop, bl_len]; omega
          have HC1 : Hid _ := HCs.out (x.1.extract 1 x.1.size) _ hez axE.bel
          have HC2 : Hid _ := HCs.out (x.1.extract 1 x.1.size) _ hez axE2.bel
          rw [hbl] at HC1 HC2
          have HY1 : Hid (∀ Y, Below (wr.alloc (.cells #[.string x.1, .string x.2] 66)).drew.heap.size (wr.alloc (.cells #[.string x.1, .string x.2] 66)).drew Y → ∀ y1 y2 : S, Ax W (.slice (some ⟨g, o, none⟩) i cap) least (Y.alloc (.cells #[.string y1, .string y2] 66))) := fun Y hY y1 y2 => (axE.below hY).below ((Below.refl _ Y).alloc (Nat.le_refl _) _)
          have HY2 : Hid (∀ Y, Below ((wr.alloc (.cells #[.string x.1, .string x.2] 66)).alloc (.cells #[.string ⟨#[]⟩, .string ⟨#[]⟩] 66)).drew.heap.size ((wr.alloc (.cells #[.string x.1, .string x.2] 66)).alloc (.cells #[.string ⟨#[]⟩, .string ⟨#[]⟩] 66)).drew Y → ∀ y1 y2 : S, ∃ Z, (stC (.pointer (some ⟨wr.heap.size + 1, 0, none⟩)) (.agg #[.string y1, .string y2])).run Tryd.prog Y = .ok () Z ∧ Ax W (.slice (some ⟨g, o, none⟩) i cap) least Z) := fun Y hY y1 y2 => by
            have aY := axE2.below hY
            have rY : Y.heap[wr.heap.size + 1]? = some (.cells #[.string ⟨#[]⟩, .string ⟨#[]⟩] 66 (0, 0)) := by
              rw [hY.block _ (by show wr.heap.size + 1 < ((wr.alloc _).alloc _).heap.size; simp)]
              have := heap_alloc_new (wr.alloc (.cells #[.string x.1, .string x.2] 66)) (.cells #[.string ⟨#[]⟩, .string ⟨#[]⟩] 66)
              rw [show (wr.alloc (.cells #[.string x.1, .string x.2] 66)).heap.size = wr.heap.size + 1 by simp] at this
              exact this
            obtain ⟨Z, h1, -, h3, h4⟩ := st_Crow Y (wr.heap.size + 1) _ rfl (y1, y2) rY
            exact ⟨Z, h1, aY.bel.trans (h3 _ (by have := ax.bel.size; omega)), (h4 _ (by have := ax.sz; omega)).trans aY.box⟩
          have hp0 : (1 : Int) ≤ (x.1.size : Int) := by omega
          have HL : Hid (m < i ∧ C[m]? = some x ∧ ∀ j x, j < m → C[j]? = some x → ∀ k, hit C (((bl x.1).drop 1).drop k) = none) := ⟨hm, hx, hall⟩
          obtain ⟨x1, x2⟩ := x
          unfold eR at lC
          simp only at hp0
          clear hm mle ax hall hx hg rr hxm hpos hsz axV axE axE2 hbl hez
          go_wp2_with fail
          go_region_with (first | (go_at_call 24; refine Calls.mono HC2.out ?_; rintro e Y ⟨kk, ⟨y1, y2⟩, b, rfl, h1, h2, bY⟩; unfold eR; obtain ⟨Z, sZ, aZ⟩ := HY2.out Y bY y1 y2; have HAZ : Hid (Ax W (.slice (some ⟨g, o, none⟩) i cap) least Z) := aZ; have HHt : Hid ((b = true → ∃ k, hit C (((bl x1).drop 1).drop k) = some (y1, y2)) ∧ (b = false → ∀ k, hit C (((bl x1).drop 1).drop k) = none)) := ⟨fun q => ⟨kk, (h1 q).2.2⟩, h2⟩; clear aZ h1 h2 bY) | (go_at_call 24; refine Calls.mono HC1.out ?_; rintro e Y ⟨kk, ⟨y1, y2⟩, b, rfl, h1, h2, bY⟩; unfold eR; have HAZ : Hid (Ax W (.slice (some ⟨g, o, none⟩) i cap) least (Y.alloc (.cells #[.string y1, .string y2] 66))) := HY1.out Y bY y1 y2; have HHt : Hid ((b = true → ∃ k, hit C (((bl x1).drop 1).drop k) = some (y1, y2)) ∧ (b = false → ∀ k, hit C (((bl x1).drop 1).drop k) = none)) := ⟨fun q => ⟨kk, (h1 q).2.2⟩, h2⟩; clear h1 h2 bY))
          all_goals clear HC1 HC2 lE lE2
          all_goals cases b with
            | true =>
              have HBD : Hid (¬ Apt (C.map (·.1))) := by
                obtain ⟨k, hk⟩ := HHt.out.1 (by trivial)
                exact not_apt HPF.out.2.1 (List.mem_of_getElem? HL.out.2.1) hk
              go_wp2_with fail
              go_ret
              exact ⟨false, rfl, ⟨fun q => (by cases q), fun q => absurd q HBD.out⟩, HAZ.out.bel⟩
            | false =>
              go_wp2_with fail
              go_roundw
              case rel => exact ⟨m + 1, by go_num, HL.out.1, HAZ.out, fun j y hj hy => by
                by_cases q : j = m
                · subst q
                  obtain rfl : (x1, x2) = y := Option.some.inj (HL.out.2.1.symm.trans hy)
                  exact HHt.out.2 (by trivial)
                · exact HL.out.2.2 j y (by omega) hy⟩
              case measure => have := HL.out.1; simp [intOf]; omega
        · obtain ⟨ile, ax, hall⟩ := HI.out
          have hm1 : ¬ ((m : Int) < (i : Int)) := by omega
          have HT : Hid (Apt (C.map (·.1)) ∧ Below W.heap.size W wr) := ⟨apt_of HPF.out.1 HPF.out.2.1 fun x hx => by
            obtain ⟨j, hj⟩ := List.mem_iff_getElem?.1 hx
            exact hall j x (by have := (List.getElem?_eq_some_iff.1 hj).1; have := HG.out.1; omega) hj, ax.bel⟩
          clear hm ile ax hall
          go_wp2_with fail
          go_ret
          exact ⟨true, rfl, ⟨fun _ => HT.out.1, fun _ => rfl⟩, HT.out.2⟩
end
end Go.Proofs.YtceclpabdfncoaaDoor.Re
