/- Swap of the code. -/
import Derived.Test.YtceclpabdfncoaaDoorRsN
import Derived.Test.YtceclpabdfncoaaDoorRsJb
import Derived.Test.YtceclpabdfncoaaDoorRsJc
namespace Go.Proofs.YtceclpabdfncoaaDoor.Re
open Go.RowKit
/-- A copy of one's own in its variable, over a world that stays. -/
structure Cw (D : World) (q : Nat) (Co : Array Value) (o n s a e : Value) (us : List Value) (R : Rcp) (wr : World) : Prop where
  bel : Below D.heap.size D wr
  row : wr.heap[q]? = some (.cells Co 33 (0, 0))
  hq : D.heap.size ≤ q
  tw : Tw D.heap.size wr o n s a e us R
theorem Cw.below {D : World} {q : Nat} {Co : Array Value} {o n s a e : Value} {us : List Value} {R : Rcp} {wr w' : World} (h : Cw D q Co o n s a e us R wr) (hb : Below wr.heap.size wr w') : Cw D q Co o n s a e us R w' := ⟨h.bel.trans (hb.mono h.bel.size), (hb.block _ (Array.getElem?_eq_some_iff.1 h.row).1).trans h.row, h.hq, h.tw.below hb⟩
theorem Cw.setA {D : World} {q : Nat} {Co : Array Value} {g m c : Nat} {o n s e : Value} {us : List Value} {R : Rcp} {wr : World} (h : Cw D q Co o n s (.slice (some ⟨g, 0, none⟩) m c) e us R wr) (hp : Sepa s (.slice (some ⟨g, 0, none⟩) m c) us) {i : Nat} {x : S} (l : S) (hx : R.a[i]? = some x) : Cw D q Co o n s (.slice (some ⟨g, 0, none⟩) m c) e us { R with a := R.a.set i l } (wr.setCell ⟨g, i, none⟩ (.string l)) := by
  obtain ⟨h1, h2, cur, hc⟩ := h.tw.fa.tag (g := g) rfl
  exact ⟨h.bel.setCell (p := ⟨g, i, none⟩) h1 _, (heap_setCell_other _ _ _ _ (by show q ≠ g; exact (tag_ne hc h.row (by decide)).symm)).trans h.row, h.hq, h.tw.setA hp l hx⟩
theorem Cw.setE {D : World} {q : Nat} {Co : Array Value} {g m c : Nat} {o n s a : Value} {us : List Value} {R : Rcp} {wr : World} (h : Cw D q Co o n s a (.slice (some ⟨g, 0, none⟩) m c) us R wr) {i : Nat} {x : Pai} (l : S) (hx : R.e[i]? = some x) : Cw D q Co o n s a (.slice (some ⟨g, 0, none⟩) m c) us { R with e := R.e.set i (x.1, l) } (wr.setCell ⟨g, i * 2 + 1, none⟩ (.string l)) := by
  obtain ⟨h1, h2, cur, hc⟩ := h.tw.fe.tag (g := g) rfl
  exact ⟨h.bel.setCell (p := ⟨g, i * 2 + 1, none⟩) h1 _, (heap_setCell_other _ _ _ _ (by show q ≠ g; exact (tag_ne hc h.row (by decide)).symm)).trans h.row, h.hq, h.tw.setE l hx⟩
theorem Cw.cel {D : World} {q : Nat} {Co : Array Value} {o n s a e : Value} {us : List Value} {R : Rcp} {wr : World} (h : Cw D q Co o n s a e us R wr) {k : Nat} {v : Value} (hv : Co[k]? = some v) : wr.cell? ⟨q, k, none⟩ = some v := c1 h.row hv
theorem apt_perm {C : List Pai} {fr to : List S} (h : C.Perm (fr.zip to)) (hl : fr.length = to.length) : Apt (C.map (·.1)) ↔ Apt fr := by
  rw [Apt.perm (h.map _), zip_fst hl]
section
attribute [local go_sem ↓] toLdR toStR toLdH toStH toLdP
set_option maxRecDepth 100000 in
set_option maxHeartbeats 3200000 in
theorem swapC_ne (W : World) (o n s a e : Value) (R : Rcp) (fv tv : Value) (fr to : List S) (hf : Ls W fv 1 (fr.map sR)) (ht : Ls W tv 1 (to.map sR)) (hq : ¬ fr.length = to.length) : Calls Tryd.prog 6 #[.agg (rV o n s R.sys R.bld a e), fv, tv] W (SwE W R fr to) := by
  unfold SwE
  rw [if_neg (fun q => hq q.1), if_neg (fun q => hq q.1)]
  obtain ⟨B0, hB0⟩ : ∃ B0, (W.alloc (.cells (rV o n s R.sys R.bld a e) 33)).alloc (.cells zR 33) = B0 := ⟨_, rfl⟩
  have x0 : Bx W (rV o n s R.sys R.bld a e) B0 := hB0 ▸ bx_new W _
  obtain ⟨of, cf, rfl⟩ := hf.form
  obtain ⟨ot, ct, rfl⟩ := ht.form
  obtain ⟨lf, hlf⟩ : ∃ k, fr.length = k := ⟨_, rfl⟩
  obtain ⟨lt, hlt⟩ : ∃ k, to.length = k := ⟨_, rfl⟩
  rw [List.length_map, hlf, List.length_map, hlt]
  have el : ¬ (lf : Int) = (lt : Int) := by omega
  obtain ⟨s1, s2, s3, s4⟩ := Tw.give x0 (tw_zer B0.heap.size B0) (Below.refl _ _) (C := zR) rfl (by simp [zR, Value.oneCell'])
  obtain ⟨Z, hZ⟩ : ∃ Z, B0.setRow (W.heap.size + 1) zR = Z := ⟨_, rfl⟩
  rw [hZ] at s1 s2 s3 s4
  have HF : Hid (_ ∧ _ ∧ _) := ⟨s2, s3, s4⟩
  rw [← hB0] at s1
  unfold rV zR at s1
  unfold rV
  clear hf ht hlf hlt x0 hB0 hq hZ s2 s3 s4
  go_enter Tryd.func6, Tryd.ntmps6
  go_wp2_with fail
  refine bodyPost_ret (results_R2 rfl _ _ (W.heap.size + 1) _ rfl rfl HF.out.2.2) rfl ?_
  exact ⟨_, _, _, _, _, [], rfl, HF.out.1, HF.out.2.1⟩
set_option maxRecDepth 100000 in
set_option maxHeartbeats 6400000 in
theorem swapC_eq (W : World) (o n s a e : Value) (R : Rcp) (hs : Sm R) (h : Rc W o n s a e R) (fv tv : Value) (fr to : List S) (hf : Ls W fv 1 (fr.map sR)) (ht : Ls W tv 1 (to.map sR)) (hb : Bd R fr to) (hq : fr.length = to.length) : Calls Tryd.prog 6 #[.agg (rV o n s R.sys R.bld a e), fv, tv] W (SwE W R fr to) := by
  obtain ⟨B0, hB0⟩ : ∃ B0, (W.alloc (.cells (rV o n s R.sys R.bld a e) 33)).alloc (.cells zR 33) = B0 := ⟨_, rfl⟩
  have x0 : Bx W (rV o n s R.sys R.bld a e) B0 := hB0 ▸ bx_new W _
  obtain ⟨of, cf, rfl⟩ := hf.form
  obtain ⟨ot, ct, rfl⟩ := ht.form
  obtain ⟨lf, hlf⟩ : ∃ k, fr.length = k := ⟨_, rfl⟩
  have hlt : to.length = lf := by omega
  rw [List.length_map, hlf] at hf
  rw [List.length_map, hlt] at ht
  rw [List.length_map, hlf, List.length_map, hlt]
  have HG : Hid (Sm R ∧ Rc W o n s a e R ∧ Bd R fr to ∧ fr.length = to.length) := ⟨hs, h, hb, hq⟩
  have HX : Hid (Bx W (rV o n s R.sys R.bld a e) B0) := x0
  have HB0 : Hid (_ = B0) := hB0
  have HCh : Hid _ := changes_any B0 _ _ fr to (hf.below x0.bel) (ht.below x0.bel) hq hb.2.2.1 hb.2.2.2.2.1
  unfold rV zR at HB0
  unfold rV
  clear h hs hf ht hb hlf hlt x0 hB0 hq
  go_enter Tryd.func6, Tryd.ntmps6
  go_wp2_with fail
  rw [HB0.out]
  refine Calls.mono HCh.out ?_
  rintro en w1 ⟨oa, cap, least, C, rfl, hpm, hsd, hls, hle, hlb, b1⟩
  have chs : Chs w1 (.slice oa C.length cap) C least := ⟨hls, hsd, by have := hpm.length_eq; rw [List.length_zip] at this; have := HG.out.2.2.1.2.2.2.2.1; omega, hle, hlb, fun x hx => by
    have := List.of_mem_zip (hpm.mem_iff.1 hx)
    exact ⟨HG.out.2.2.1.2.2.1 _ this.1, HG.out.2.2.1.2.2.2.1 _ this.2⟩⟩
  have x1 := HX.out.below b1
  obtain ⟨n1, hn1⟩ : ∃ k, C.length = k := ⟨_, rfl⟩
  rw [hn1] at chs
  rw [hn1]
  obtain ⟨D, hD⟩ : ∃ D, (w1.alloc (.cells zH 53)).setRow w1.heap.size #[.slice oa n1 cap, .int .i64 (least : Int)] = D := ⟨_, rfl⟩
  have sD := st_H (w1.alloc (.cells zH 53)) w1.heap.size zH #[.slice oa n1 cap, .int .i64 (least : Int)] rfl rfl (by simp [Value.oneCell']) (heap_alloc_new _ _)
  rw [hD] at sD
  have rD : D.heap[w1.heap.size]? = some (.cells #[.slice oa n1 cap, .int .i64 (least : Int)] 53 (0, 0)) := by rw [← hD]; exact setRow_heap _ _ _ _ _ _ (heap_alloc_new _ _)
  have bD : Below w1.heap.size w1 D := by rw [← hD]; exact below_setRow ((Below.refl _ w1).alloc (Nat.le_refl _) _) (Nat.le_refl _) _
  have xD := x1.below bD
  have chD := chs.below bD
  have lD := ld_H D w1.heap.size _ rfl rD
  have HAp : Hid _ := apart_any D _ C least chD
  have HK : Hid (Bx W (rV o n s R.sys R.bld a e) D ∧ Chs D (.slice oa n1 cap) C least ∧ D.heap[w1.heap.size]? = some (.cells #[.slice oa n1 cap, .int .i64 (least : Int)] 53 (0, 0)) ∧ C.Perm (fr.zip to)) := ⟨xD, chD, rD, hpm⟩
  unfold zH at sD
  clear hpm hsd hls hle hlb b1 chs x1 hn1 hD rD bD xD chD HCh
  go_wp2_with fail
  refine Calls.mono HAp.out ?_
  rintro en w2 ⟨b, rfl, hb, b2⟩
  rw [apt_perm HK.out.2.2.2 HG.out.2.2.2] at hb
  have x2 := HK.out.1.below b2
  cases b with
  | false =>
    have hna : ¬ Apt fr := fun q => by have := hb.2 q; cases this
    obtain ⟨Z, s1, HF⟩ : ∃ Z, (stR (.pointer (some ⟨W.heap.size + 1, 0, none⟩)) (.agg zR)).run Tryd.prog w2 = .ok () Z ∧ Hid (Gv W ZER (.slice none 0 0) (.slice none 0 0) (.slice none 0 0) (.slice none 0 0) (.slice none 0 0) [] Z) := Tw.gv x2 (tw_zer w2.heap.size w2) (Below.refl _ _)
    have HN : Hid (¬ Apt fr) := hna
    unfold zR at s1
    clear hb hna x2 b2 HAp lD sD
    go_wp2_with fail
    refine bodyPost_ret (results_R2 rfl _ _ (W.heap.size + 1) _ rfl rfl HF.out.row) rfl ?_
    unfold SwE
    rw [if_neg (fun q => HN.out q.2), if_neg (fun q => HN.out q.2)]
    exact ⟨_, _, _, _, _, [], rfl, HF.out.tw, HF.out.bel⟩
  | true =>
    have hap : Apt fr := hb.1 rfl
    have l2 := ld_R w2 W.heap.size _ rfl x2.r0
    have HCo : Hid _ := copyOf_sep w2 o n s a e R HG.out.1 (HG.out.2.1.below x2.bel)
    have HK2 : Hid (Bx W (rV o n s R.sys R.bld a e) w2 ∧ Chs w2 (.slice oa n1 cap) C least ∧ w2.heap[w1.heap.size]? = some (.cells #[.slice oa n1 cap, .int .i64 (least : Int)] 53 (0, 0)) ∧ Apt fr ∧ C.Perm (fr.zip to)) := ⟨x2, HK.out.2.1.below b2, (b2.block _ (Array.getElem?_eq_some_iff.1 HK.out.2.2.1).1).trans HK.out.2.2.1, hap, HK.out.2.2.2⟩
    unfold rV at l2
    clear hb hap x2 b2 HAp lD sD
    go_wp2_with fail
    refine Calls.mono HCo.out ?_
    rintro en w3 ⟨o', n', s', a', e', us, rfl, tw, bw, sep⟩
    obtain ⟨xa, ca, fa, -⟩ := tw.fa.form
    obtain ⟨xe, ce, fe, -⟩ := tw.fe.form
    obtain ⟨la, hla⟩ : ∃ k, R.a.length = k := ⟨_, rfl⟩
    obtain ⟨le, hle⟩ : ∃ k, R.e.length = k := ⟨_, rfl⟩
    rw [List.length_map, hla] at fa
    rw [List.length_map, hle] at fe
    subst fa fe
    obtain ⟨X, hX⟩ : ∃ X, (w3.alloc (.cells zR 33)).setRow w3.heap.size (rV o' n' s' R.sys R.bld (.slice xa la ca) (.slice xe le ce)) = X := ⟨_, rfl⟩
    have sX := st_R (w3.alloc (.cells zR 33)) w3.heap.size zR (rV o' n' s' R.sys R.bld (.slice xa la ca) (.slice xe le ce)) rfl rfl (tw.one _ _) (heap_alloc_new _ _)
    rw [hX] at sX
    have bX : Below w3.heap.size w3 X := by rw [← hX]; exact below_setRow ((Below.refl _ w3).alloc (Nat.le_refl _) _) (Nat.le_refl _) _
    have HS : Hid (Cw w2 w3.heap.size (rV o' n' s' R.sys R.bld (.slice xa la ca) (.slice xe le ce)) o' n' s' (.slice xa la ca) (.slice xe le ce) us R X) := ⟨bw.trans (bX.mono bw.size), by rw [← hX]; exact setRow_heap _ _ _ _ _ _ (heap_alloc_new _ _), bw.size, tw.below bX⟩
    have HL : Hid (R.a.length = la ∧ R.e.length = le ∧ Sepa s' (.slice xa la ca) us) := ⟨hla, hle, sep⟩
    have HO : Hid ((rV o' n' s' R.sys R.bld (.slice xa la ca) (.slice xe le ce)).all (·.oneCell') = true) := tw.one _ _
    have k5 : X.cell? ⟨w3.heap.size, 5, none⟩ = some (.slice xa la ca) := HS.out.cel rfl
    unfold rV zR at sX
    unfold rV
    clear tw bw sep bX hX hla hle HCo l2
    go_wp2_with fail
    clear sX k5
    obtain ⟨Co, hCo⟩ : ∃ C : Array Value, C = rV o' n' s' R.sys R.bld (.slice xa la ca) (.slice xe le ce) := ⟨_, rfl⟩
    have HCC : Hid (Co = rV o' n' s' R.sys R.bld (.slice xa la ca) (.slice xe le ce)) := hCo
    rw [← hCo] at HS
    clear hCo
    obtain ⟨q, hq⟩ : ∃ q, w3.heap.size = q := ⟨_, rfl⟩
    obtain ⟨hh, hhh⟩ : ∃ q, w1.heap.size = q := ⟨_, rfl⟩
    rw [hq] at HS
    rw [hhh] at HK2
    rw [hq, hhh]
    clear hq hhh HK
    have HSW : Hid (∀ (x : S) w, Below w2.heap.size w2 w → x.size ≤ 2000000 → Calls Tryd.prog 15 #[.agg #[.slice oa n1 cap, .int .i64 (least : Int)], .string x] w fun e w' => e = .returned (.string (swS C x)) ∧ Below w.heap.size w w') := fun x w hw hx => by
      have hpz := HK2.out.2.2.2.1.zpf HG.out.2.2.2
      have hpm := HK2.out.2.2.2.2
      have hpc : PF C := PF.perm hpm.symm hpz
      have hnz : NE (fr.zip to) := HK2.out.2.2.2.1.ne
      have hm := sw_bd (to := to) HK2.out.2.2.2.1 HG.out.2.2.1.2.2.2.1 hx
      have es : SW C (bl x) = SW (fr.zip to) (bl x) := SW_perm hpm hpc _ _
      exact swin_any w _ C least (HK2.out.2.1.below hw) hpc (fun z hz => hnz z (hpm.mem_iff.1 hz)) x (by omega) (by rw [es]; exact hm)
    go_loopw [10, 11, 32] (fun _ _ iv wr => ∃ (i : Nat), iv = .int .i64 (i : Int) ∧ Hid (i ≤ la ∧ Cw w2 q Co o' n' s' (.slice xa la ca) (.slice xe le ce) us { R with a := mI (swS C) R.a i } wr)) (fun _ _ iv _ => la + 1 - (intOf iv).toNat)
    case atStart => exact ⟨0, rfl, Nat.zero_le _, by rw [mI_0]; exact HS.out⟩
    case round =>
      obtain ⟨i, rfl, HI⟩ := hrel
      by_cases hi : i < la
      · obtain ⟨ile, rd⟩ := HI.out
        obtain ⟨x, hx⟩ : ∃ x, R.a[i]? = some x := ⟨_, List.getElem?_eq_getElem (by have := HL.out.1; omega)⟩
        obtain ⟨g, rfl⟩ := rd.tw.fa.own (by omega)
        have hx2 : (mI (swS C) R.a i)[i]? = some x := mI_at _ hx
        have cW : wr.cell? ⟨g, i, none⟩ = some (.string x) := by have := rd.tw.fa.cel i 0 _ (.string x) (by rw [List.getElem?_map, hx2]; rfl) rfl; simpa using this
        have rdE := rd.below (below_drw wr)
        have kE : wr.drew.cell? ⟨q, 5, none⟩ = some (.slice (some ⟨g, 0, none⟩) la ca) := rdE.cel (by rw [HCC.out]; rfl)
        have lE := ld_H wr.drew hh _ rfl ((rdE.bel.block _ (Array.getElem?_eq_some_iff.1 HK2.out.2.2.1).1).trans HK2.out.2.2.1)
        have HCs : Hid _ := HSW.out x wr.drew rdE.bel (HG.out.2.2.1.1 x (List.mem_of_getElem? hx))
        have HRd : Hid (i < la ∧ R.a[i]? = some x ∧ Cw w2 q Co o' n' s' (.slice (some ⟨g, 0, none⟩) la ca) (.slice xe le ce) us { R with a := mI (swS C) R.a i } wr.drew) := ⟨hi, hx, rdE⟩
        have hi0 : (0 : Int) ≤ (i : Int) := by omega
        have hi1 : (i : Int) < (la : Int) := by omega
        have w1' : IntKind.i64.wrap ((i : Int) + 1) = (i : Int) + 1 := by rw [IntKind.wrap_i64]; have := HG.out.1.2.2.2.1; have := HL.out.1; omega
        obtain ⟨y, hy⟩ : ∃ y, swS C x = y := ⟨_, rfl⟩
        rw [hy] at HCs
        have HY : Hid (swS C x = y) := hy
        clear hi ile rd hx hx2 rdE hy
        have HA : Hid (∀ Y, Below wr.drew.heap.size wr.drew Y → Y.cell? ⟨q, 5, none⟩ = some (.slice (some ⟨g, 0, none⟩) la ca) ∧ Y.frozen? ⟨g, i, none⟩ = false ∧ Y.cell? ⟨g, i, none⟩ = some (.string x) ∧ Hid (Cw w2 q Co o' n' s' (.slice (some ⟨g, 0, none⟩) la ca) (.slice xe le ce) us { R with a := mI (swS C) R.a (i + 1) } (Y.setCell ⟨g, i, none⟩ (.string y)))) := fun Y bY => by
          have rdY := HRd.out.2.2.below bY
          have hx2 : (mI (swS C) R.a i)[i]? = some x := mI_at _ HRd.out.2.1
          refine ⟨rdY.cel (by rw [HCC.out]; rfl), rdY.tw.fa.fro _, ?_, ?_⟩
          · have := rdY.tw.fa.cel i 0 _ (.string x) (by rw [List.getElem?_map, hx2]; rfl) rfl
            simpa using this
          · have := rdY.setA HL.out.2.2 y hx2
            have e : (mI (swS C) R.a i).set i y = mI (swS C) R.a (i + 1) := by rw [← HY.out]; exact mI_set _ HRd.out.2.1
            simp only [e] at this
            exact this
        go_wp2_with fail
        go_region_with (go_at_call 15; refine Calls.mono HCs.out ?_; rintro en Y ⟨rfl, bY⟩; obtain ⟨kY, fY, cY, HRY⟩ := HA.out Y bY; clear bY)
        all_goals go_wp2_with fail
        all_goals go_roundw
        all_goals first
          | exact ⟨i + 1, by go_num, HRd.out.1, HRY.out⟩
          | (have := HRd.out.1; simp [intOf]; omega)
      · obtain ⟨ile, rd⟩ := HI.out
        have hi2 : ¬ ((i : Int) < (la : Int)) := by omega
        rw [mI_all _ _ (by have := HL.out.1; omega)] at rd
        have HS2 : Hid (Cw w2 q Co o' n' s' (.slice xa la ca) (.slice xe le ce) us { R with a := R.a.map (swS C) } wr) := rd
        have k6 : wr.cell? ⟨q, 6, none⟩ = some (.slice xe le ce) := rd.cel (by rw [HCC.out]; rfl)
        clear hi ile rd HS HI
        go_wp2_with fail
        clear k6 hi2
        go_loopw [12, 13, 48] (fun _ _ iv wr => ∃ (i : Nat), iv = .int .i64 (i : Int) ∧ Hid (i ≤ le ∧ Cw w2 q Co o' n' s' (.slice xa la ca) (.slice xe le ce) us { R with a := R.a.map (swS C), e := mI (swP C) R.e i } wr)) (fun _ _ iv _ => le + 1 - (intOf iv).toNat)
        case atStart => exact ⟨0, rfl, Nat.zero_le _, by rw [mI_0]; exact HS2.out⟩
        case round =>
          obtain ⟨i, rfl, HI⟩ := hrel
          by_cases hi : i < le
          · obtain ⟨ile, rd⟩ := HI.out
            obtain ⟨x, hx⟩ : ∃ x, R.e[i]? = some x := ⟨_, List.getElem?_eq_getElem (by have := HL.out.2.1; omega)⟩
            obtain ⟨g, rfl⟩ := rd.tw.fe.own (by omega)
            have hx2 : (mI (swP C) R.e i)[i]? = some x := mI_at _ hx
            have hx3 : ((mI (swP C) R.e i).map eR)[i]? = some (eR x) := by rw [List.getElem?_map, hx2]; rfl
            obtain ⟨g', o', hgo, hg', rr⟩ := rd.tw.fe.ls.at i _ hx3
            injection hgo with hgo
            injection hgo with e1 e2
            subst e1 e2
            rw [Nat.zero_add] at rr
            have lP := ld_P wr g (i * 2) _ rfl rr
            have rdV := rd.below ((Below.refl _ wr).alloc (Nat.le_refl _) (.cells #[.string x.1, .string x.2] 50))
            have rdE := rdV.below (below_drw _)
            have kE : (wr.alloc (.cells #[.string x.1, .string x.2] 50)).drew.cell? ⟨q, 6, none⟩ = some (.slice (some ⟨g, 0, none⟩) le ce) := rdE.cel (by rw [HCC.out]; rfl)
            have cE : (wr.alloc (.cells #[.string x.1, .string x.2] 50)).drew.cell? ⟨wr.heap.size, 1, none⟩ = some (.string x.2) := c1 (w := wr.alloc (.cells #[.string x.1, .string x.2] 50)) (heap_alloc_new _ _) rfl
            have lE := ld_H (wr.alloc (.cells #[.string x.1, .string x.2] 50)).drew hh _ rfl ((rdE.bel.block _ (Array.getElem?_eq_some_iff.1 HK2.out.2.2.1).1).trans HK2.out.2.2.1)
            have HCs : Hid _ := HSW.out x.2 _ rdE.bel (HG.out.2.2.1.2.1 x (List.mem_of_getElem? hx))
            have HRd : Hid (i < le ∧ R.e[i]? = some x ∧ Cw w2 q Co o' n' s' (.slice xa la ca) (.slice (some ⟨g, 0, none⟩) le ce) us { R with a := R.a.map (swS C), e := mI (swP C) R.e i } (wr.alloc (.cells #[.string x.1, .string x.2] 50)).drew) := ⟨hi, hx, rdE⟩
            have hi0 : (0 : Int) ≤ (i : Int) := by omega
            have hi1 : (i : Int) < (le : Int) := by omega
            have w1' : IntKind.i64.wrap ((i : Int) + 1) = (i : Int) + 1 := by rw [IntKind.wrap_i64]; have := HG.out.1.2.2.2.2.1; have := HL.out.2.1; omega
            obtain ⟨x1, x2⟩ := x
            obtain ⟨y, hy⟩ : ∃ y, swS C x2 = y := ⟨_, rfl⟩
            simp only [hy] at HCs
            have HY : Hid (swS C x2 = y) := hy
            unfold eR at lP
            clear hi ile rd hx hx2 hx3 rdE rdV hy hg' rr
            have HA : Hid (∀ Y, Below (wr.alloc (.cells #[.string x1, .string x2] 50)).drew.heap.size (wr.alloc (.cells #[.string x1, .string x2] 50)).drew Y → Y.cell? ⟨q, 6, none⟩ = some (.slice (some ⟨g, 0, none⟩) le ce) ∧ Y.frozen? ⟨g, i * 2 + 1, none⟩ = false ∧ Y.cell? ⟨g, i * 2 + 1, none⟩ = some (.string x2) ∧ Hid (Cw w2 q Co o' n' s' (.slice xa la ca) (.slice (some ⟨g, 0, none⟩) le ce) us { R with a := R.a.map (swS C), e := mI (swP C) R.e (i + 1) } (Y.setCell ⟨g, i * 2 + 1, none⟩ (.string y)))) := fun Y bY => by
              have rdY := HRd.out.2.2.below bY
              have hx2 : (mI (swP C) R.e i)[i]? = some (x1, x2) := mI_at _ HRd.out.2.1
              refine ⟨rdY.cel (by rw [HCC.out]; rfl), rdY.tw.fe.fro _, rdY.tw.fe.cel i 1 _ _ (by rw [List.getElem?_map, hx2]; rfl) rfl, ?_⟩
              have := rdY.setE y hx2
              have e : (mI (swP C) R.e i).set i (x1, y) = mI (swP C) R.e (i + 1) := by rw [← HY.out]; exact mI_set (swP C) HRd.out.2.1
              simp only [e] at this
              exact this
            go_wp2_with fail
            go_region_with (go_at_call 15; refine Calls.mono HCs.out ?_; rintro en Y ⟨rfl, bY⟩; obtain ⟨kY, fY, cY, HRY⟩ := HA.out Y bY; clear bY)
            all_goals go_wp2_with fail
            all_goals go_roundw
            all_goals first
              | exact ⟨i + 1, by go_num, HRd.out.1, HRY.out⟩
              | (have := HRd.out.1; simp [intOf]; omega)
          · obtain ⟨ile, rd⟩ := HI.out
            rw [mI_all _ _ (by have := HL.out.2.1; omega)] at rd
            have hi2 : ¬ ((i : Int) < (le : Int)) := by omega
            have row := rd.row
            rw [HCC.out] at row
            have ldR' := ld_R wr q _ rfl row
            have bx := HK2.out.1.below rd.bel
            have tw := rd.tw.mono HK2.out.1.bel.size
            obtain ⟨Z, s1, HF⟩ : ∃ Z, (stR (.pointer (some ⟨W.heap.size + 1, 0, none⟩)) (.agg (rV o' n' s' R.sys R.bld (.slice xa la ca) (.slice xe le ce)))).run Tryd.prog wr = .ok () Z ∧ Hid (Gv W (swR C R) o' n' s' (.slice xa la ca) (.slice xe le ce) us Z) :=
              ⟨_, st_R wr (W.heap.size + 1) _ _ rfl rfl HO.out bx.r1, tw.rows (fun g C t hC ht => setRow_other _ _ _ _ (tag_ne hC bx.r1 ht)), below_setRow bx.bel (by omega) _, setRow_heap _ _ _ _ _ _ bx.r1⟩
            have HEQ : Hid (swR C R = swR (fr.zip to) R) := by
              have hpc : PF C := PF.perm HK2.out.2.2.2.2.symm (HK2.out.2.2.2.1.zpf HG.out.2.2.2)
              have e1 : swS C = swS (fr.zip to) := funext fun x => swS_perm HK2.out.2.2.2.2 hpc x
              show swR C R = _
              unfold swR swP
              rw [e1]
            unfold rV at ldR' s1
            clear hi ile rd tw bx row
            go_wp2_with fail
            refine bodyPost_ret (results_R2 rfl _ _ (W.heap.size + 1) _ rfl rfl HF.out.row) rfl ?_
            unfold SwE
            have hc : fr.length = to.length ∧ Apt fr := ⟨HG.out.2.2.2, HK2.out.2.2.2.1⟩
            rw [if_pos hc, if_pos hc, ← HEQ.out]
            exact ⟨_, _, _, _, _, us, rfl, HF.out.tw, HF.out.bel⟩
theorem swapC_any (W : World) (o n s a e : Value) (R : Rcp) (hs : Sm R) (h : Rc W o n s a e R) (fv tv : Value) (fr to : List S) (hf : Ls W fv 1 (fr.map sR)) (ht : Ls W tv 1 (to.map sR)) (hb : Bd R fr to) : Calls Tryd.prog 6 #[.agg (rV o n s R.sys R.bld a e), fv, tv] W (SwE W R fr to) := by
  by_cases hq : fr.length = to.length
  · exact swapC_eq W o n s a e R hs h fv tv fr to hf ht hb hq
  · exact swapC_ne W o n s a e R fv tv fr to hf ht hq
end
end Go.Proofs.YtceclpabdfncoaaDoor.Re
