/- LabelOrder: the walk. -/
import Derived.Test.YthbjlhafagcidaaDoorOrR
namespace Go.Proofs.YthbjlhafagcidaaDoor
open Go.RowKit Go.Shelf Go.Sort
theorem ld_row {W : World} {g : Nat} {x : Lb} (h : W.heap[g]? = some (.cells (lab x.h x.s) 25 (0, 0))) : (loadR 25 (.pointer (some ⟨g, 0, none⟩))).run Tryd.prog W = .ok (.agg (lab x.h x.s)) W := run_loadR25 W g x.h x.s h x.hl
theorem nm_row {W : World} {g : Nat} {x : Lb} (h : W.heap[g]? = some (.cells (lab x.h x.s) 25 (0, 0))) : W.cell? ⟨g, 20, none⟩ = some (.string x.s) := by rw [cell_of_row _ _ _ _ _ _ h, lab_name x.h x.s x.hl]
theorem cmp_c (x y : Lb) (W : World) : Calls Tryd.prog 5 #[.agg (lab x.h x.s), .agg (lab y.h y.s)] W fun e w' => e = .returned (.int .i64 (cf x y)) ∧ Below W.heap.size W w' :=
  (cmpC_any x.h y.h x.s y.s x.hl y.hl W).mono fun _ _ h => ⟨h.1, h.2.1⟩
theorem toL (s : ByteArray) : s.toList = s.data.toList := by rw [ByteArray.toList_eq]
attribute [local go_sem ↓] to25l toEq
set_option maxRecDepth 100000 in
set_option maxHeartbeats 3200000 in
theorem order_any (a b c : Lb) (hba : Byt a.h) (hbb : Byt b.h) (L : List Lb) (hn : L.length ≤ 4398046511104) (v : Value) (w : World) (hv : Ls v L w) (ht : Tx w) :
    Calls Tryd.prog 3 #[.agg (lab a.h a.s), .agg (lab b.h b.s), .agg (lab c.h c.s), v] w fun e w' => e = .returned (.bool true) ∧ Below w.heap.size w w' := by
  obtain ⟨W0, hW0⟩ : ∃ W, W = ((w.alloc (.cells (lab a.h a.s) 25)).alloc (.cells (lab b.h b.s) 25)).alloc (.cells (lab c.h c.s) 25) := ⟨_, rfl⟩
  have G0 : Hid (Gd a b c v L w W0) := by rw [hW0]; exact Gd.start ht hv
  have HW : Hid (W0 = ((w.alloc (.cells (lab a.h a.s) 25)).alloc (.cells (lab b.h b.s) 25)).alloc (.cells (lab c.h c.s) 25)) := hW0
  obtain ⟨o, cp, rfl, hlc, hcm⟩ := hv.form
  obtain ⟨X, hX⟩ : ∃ X, X = cf a b := ⟨_, rfl⟩
  obtain ⟨Y, hY⟩ : ∃ Y, Y = cf b a := ⟨_, rfl⟩
  obtain ⟨U, hU⟩ : ∃ U, U = cf b c := ⟨_, rfl⟩
  obtain ⟨Z, hZ⟩ : ∃ Z, Z = cf a c := ⟨_, rfl⟩
  have HX : Hid (X = cf a b) := hX
  have Cab : Hid (∀ W, Calls Tryd.prog 5 #[.agg (lab a.h a.s), .agg (lab b.h b.s)] W fun e w' => e = .returned (.int .i64 X) ∧ Below W.heap.size W w') := by rw [hX]; exact cmp_c a b
  have Cba : Hid (∀ W, Calls Tryd.prog 5 #[.agg (lab b.h b.s), .agg (lab a.h a.s)] W fun e w' => e = .returned (.int .i64 Y) ∧ Below W.heap.size W w') := by rw [hY]; exact cmp_c b a
  have Caa : Hid (∀ W, Calls Tryd.prog 5 #[.agg (lab a.h a.s), .agg (lab a.h a.s)] W fun e w' => e = .returned (.int .i64 0) ∧ Below W.heap.size W w') := by
    have := cmp_c a a
    rw [cf_self] at this
    exact this
  have Cbc : Hid (∀ W, Calls Tryd.prog 5 #[.agg (lab b.h b.s), .agg (lab c.h c.s)] W fun e w' => e = .returned (.int .i64 U) ∧ Below W.heap.size W w') := by rw [hU]; exact cmp_c b c
  have Cac : Hid (∀ W, Calls Tryd.prog 5 #[.agg (lab a.h a.s), .agg (lab c.h c.s)] W fun e w' => e = .returned (.int .i64 Z) ∧ Below W.heap.size W w') := by rw [hZ]; exact cmp_c a c
  have hneg : IntKind.i64.wrap (-X) = Y := by
    have := cf_bd a b
    have := cf_anti a b
    rw [IntKind.wrap_i64]
    omega
  obtain ⟨E, hE⟩ : ∃ E, E = decide (a.h = b.h ∧ a.s = b.s) := ⟨_, rfl⟩
  have hXE : (X == 0) = E := by rw [hX, hE]; exact cf_eq a b
  have heq := fun W => run_eqR W a.h b.h a.s b.s a.hl b.hl
  rw [← hE] at heq
  have HTR : Hid (X ≤ 0 → U ≤ 0 → Z ≤ 0) := by
    intro h1 h2
    rw [hX] at h1
    rw [hU] at h2
    rw [hZ]
    exact cf_trans h1 h2
  have HN : Hid (L.length ≤ 4398046511104) := hn
  clear hX hY hU hZ hE ht hv hW0 hlc hcm hn
  go_enter Tryd.func3, Tryd.ntmps3
  go_wp2_with fail
  rw [← HW.out]
  refine (works_any W0 G0.out.tx).mono ?_
  rintro e W1 ⟨rfl, b1⟩
  have G1 : Hid (Gd a b c (.slice o L.length cp) L w W1) := G0.out.below b1
  have la := ld_row G1.out.ra
  have lb := ld_row G1.out.rb
  clear b1 G0 HW
  go_wp2_with fail
  refine (Cab.out _).mono ?_
  rintro e W2 ⟨rfl, b2⟩
  have G2 : Hid (Gd a b c (.slice o L.length cp) L w W2) := G1.out.below b2
  clear la lb b2 G1
  have la := ld_row G2.out.ra
  have lb := ld_row G2.out.rb
  go_wp2_with fail
  refine (Cba.out _).mono ?_
  rintro e W3 ⟨rfl, b3⟩
  have G3 : Hid (Gd a b c (.slice o L.length cp) L w W3) := G2.out.below b3
  clear la lb b3 G2
  have la := ld_row G3.out.ra
  have lb := ld_row G3.out.rb
  have he3 := heq W3
  go_wp2_with fail
  refine (Caa.out _).mono ?_
  rintro e W4 ⟨rfl, b4⟩
  have G4 : Hid (Gd a b c (.slice o L.length cp) L w W4) := G3.out.below b4
  clear la lb b4 G3 he3 heq hneg hXE Cab Cba Caa
  go_upto_region 6 with fail
  go_cut [54] (fun s wc => s = .bool false ∧ Hid (Gd a b c (.slice o L.length cp) L w wc))
  case first =>
    have lb := ld_row G4.out.rb
    have lc := ld_row (g := w.heap.size + 1 + 1) G4.out.rc
    by_cases hX0 : X ≤ 0
    · go_wp2_with fail
      refine (Cbc.out _).mono ?_
      rintro e W5 ⟨rfl, b5⟩
      have G5 : Hid (Gd a b c (.slice o L.length cp) L w W5) := G4.out.below b5
      clear lb lc b5 G4
      by_cases hU0 : U ≤ 0
      · have la := ld_row G5.out.ra
        have lc := ld_row (g := w.heap.size + 1 + 1) G5.out.rc
        have hZ0 : ¬ (0 < Z) := by have := HTR.out hX0 hU0; omega
        go_wp2_with fail
        refine (Cac.out _).mono ?_
        rintro e W6 ⟨rfl, b6⟩
        have G6 : Hid (Gd a b c (.slice o L.length cp) L w W6) := G5.out.below b6
        clear la lc b6 G5
        go_wp2_with fail
        go_meet
        case rel => exact ⟨congrArg Value.bool (decide_eq_false (by omega)), G6⟩
      · go_wp2_with fail
        go_meet
        case rel => exact ⟨rfl, G5⟩
    · go_wp2_with fail
      go_meet
      case rel => exact ⟨rfl, G4⟩
  case rest =>
    obtain ⟨rfl, G5⟩ := hcut
    clear G4 HTR Cbc Cac
    obtain ⟨ea, hea⟩ : ∃ e, e = decide ((checkN a.s).1 = 0) := ⟨_, rfl⟩
    obtain ⟨eb, heb⟩ : ∃ e, e = decide ((checkN b.s).1 = 0) := ⟨_, rfl⟩
    have Ra : Hid (∀ W, Calls Tryd.prog 6 #[.string a.s] W fun e w' => e = .returned (.bool ea) ∧ w' = W) := by rw [hea]; exact right_any a.s
    have Rb : Hid (∀ W, Calls Tryd.prog 6 #[.string b.s] W fun e w' => e = .returned (.bool eb) ∧ w' = W) := by rw [heb]; exact right_any b.s
    have HE : Hid (ea = decide (okN a.s = 0) ∧ eb = decide (okN b.s = 0)) := ⟨hea, heb⟩
    clear hea heb
    go_upto_region 8 with fail
    go_cut [62] (fun s wq => s = .bool (ea && eb) ∧ Hid (Gd a b c (.slice o L.length cp) L w wq))
    case first =>
      have na := nm_row G5.out.ra
      have nb := nm_row G5.out.rb
      go_wp2_with fail
      refine (Ra.out _).mono ?_
      rintro e W6 ⟨rfl, rfl⟩
      cases ea
      · go_wp2_with fail
        go_meet
        case rel => exact ⟨rfl, G5⟩
      · go_wp2_with fail
        refine (Rb.out _).mono ?_
        rintro e W6 ⟨rfl, rfl⟩
        go_wp2_with fail
        go_meet
        case rel => exact ⟨rfl, G5⟩
    case rest =>
      clear Ra Rb G5
      obtain ⟨rfl, G5⟩ := hcut
      go_upto_if 62 with fail
      go_cut [10, 11, 12, 13] (fun s1 s2 s3 s4 wq => Hid (Gd a b c (.slice o L.length cp) L w wq))
      case first =>
        by_cases hee : (ea && eb) = true
        · rw [hee]
          have hka : okN a.s = 0 := by
            have h1 := HE.out.1
            simp only [Bool.and_eq_true] at hee
            rw [hee.1] at h1
            exact of_decide_eq_true h1.symm
          have hkb : okN b.s = 0 := by
            have h1 := HE.out.2
            simp only [Bool.and_eq_true] at hee
            rw [hee.2] at h1
            exact of_decide_eq_true h1.symm
          obtain ⟨S, hS⟩ : ∃ S, S = baseS a.h a.s := ⟨_, rfl⟩
          obtain ⟨T, hT⟩ : ∃ T, T = baseS b.h b.s := ⟨_, rfl⟩
          have Ba : Hid (∀ W, Tx W → Calls Tryd.prog 7 #[.agg (lab a.h a.s)] W fun e w' => e = .returned (.tuple #[.string S, .int .i64 0]) ∧ Below W.heap.size W w') := by
            intro W ht
            have := baseC_any a.h hba a.hl a.s W ht
            unfold baseV at this
            rw [if_pos hka, ← hS] at this
            exact this
          have Bb : Hid (∀ W, Tx W → Calls Tryd.prog 7 #[.agg (lab b.h b.s)] W fun e w' => e = .returned (.tuple #[.string T, .int .i64 0]) ∧ Below W.heap.size W w') := by
            intro W ht
            have := baseC_any b.h hbb b.hl b.s W ht
            unfold baseV at this
            rw [if_pos hkb, ← hT] at this
            exact this
          have hord : Lib.compareBytes S.data.toList T.data.toList = X := by
            rw [hS, hT, HX.out]
            exact base_order a.h b.h a.s b.s hba hbb a.hl b.hl
          have hbd := cf_bd a b
          rw [← HX.out] at hbd
          have hless : Op.bytesLess S.toList T.toList = decide (X < 0) := by
            rw [toL, toL, less_cmp, hord]
            exact decide_eq_decide.2 (by omega)
          have hmore : (!decide (X < 0) && !S.toList == T.toList) = decide (0 < X) := by
            rw [toL, toL]
            by_cases hst : S.data.toList = T.data.toList
            · rw [hst, cmpB_self] at hord
              rw [hst, ← hord]
              simp
            · have h0 : ¬ X = 0 := fun e => hst (cmp_zero _ _ (hord.trans e))
              have : (S.data.toList == T.data.toList) = false := by simpa using hst
              rw [this, Bool.not_false, Bool.and_true, ← decide_not]
              exact decide_eq_decide.2 (by omega)
          have la := ld_row G5.out.ra
          clear hee hka hkb hS hT hord hbd
          go_wp2_with fail
          refine (Ba.out _ G5.out.tx).mono ?_
          rintro e W6 ⟨rfl, b6⟩
          have G6 : Hid (Gd a b c (.slice o L.length cp) L w W6) := G5.out.below b6
          clear la b6 G5
          have lb := ld_row G6.out.rb
          go_wp2_with fail
          refine (Bb.out _ G6.out.tx).mono ?_
          rintro e W7 ⟨rfl, b7⟩
          have G7 : Hid (Gd a b c (.slice o L.length cp) L w W7) := G6.out.below b7
          clear lb b7 G6 Ba Bb
          go_wp2_with fail
          go_meet
          case rel => exact G7
        · have hee' : (ea && eb) = false := by simpa using hee
          rw [hee']
          clear hee hee'
          go_wp2_with fail
          go_meet
          case rel => exact G5
      case rest =>
        clear G5
        have G5 : Hid (Gd a b c (.slice o L.length cp) L w wc) := hcut
        clear hcut
        obtain ⟨M, hM⟩ : ∃ M, M = dd (srt L) := ⟨_, rfl⟩
        have HM : Hid (M.Pairwise (fun a b => cf a b < 0) ∧ ∀ x, x ∈ M ↔ x ∈ L) := by rw [hM]; exact sort_up L
        have SC := sortC_any L HN.out (.slice o L.length cp) wc G5.out.ls
        rw [← hM] at SC
        obtain ⟨n, hn0⟩ : ∃ n, n = L.length := ⟨_, rfl⟩
        obtain ⟨m, hm0⟩ : ∃ m, m = M.length := ⟨_, rfl⟩
        rw [← hn0, ← hm0] at SC
        have HNN : Hid (n = L.length ∧ m = M.length) := ⟨hn0, hm0⟩
        have HSC : Hid _ := SC
        obtain ⟨g, hg⟩ : ∃ g, g = wc.heap.size := ⟨_, rfl⟩
        rw [← hg] at HSC
        rw [← hn0]
        rw [← hn0] at G5 HN
        clear SC hn0 hm0 hM
        go_wp2_with fail
        refine Calls.mono HSC.out ?_
        rintro e WS ⟨rfl, hmn, hlr, bS, zS⟩
        have GS : Hid (Gd a b c (.slice o n cp) L w WS ∧ Lr g 0 M WS ∧ g < WS.heap.size) := ⟨G5.out.below (by rw [hg] at bS; exact bS), hlr, zS⟩
        have hn2 : n ≤ 4398046511104 := HN.out
        have hm2 : m ≤ 4398046511104 := by omega
        have hmn2 : Hid (m ≤ n) := hmn
        clear HSC hlr bS zS hg G5 HN hmn
        go_wp2_with fail
        go_loopw [15] (fun iv wr => ∃ k : Nat, iv = .int .i64 (k : Int) ∧ 1 ≤ k ∧ (k ≤ m ∨ k = 1) ∧ Hid (Gd a b c (.slice o n cp) L w wr ∧ Lr g 0 M wr ∧ g < wr.heap.size)) (fun iv _ => m - (intOf iv).toNat)
        case atStart => exact ⟨1, rfl, by omega, .inr rfl, GS⟩
        case round =>
          clear GS
          obtain ⟨k, rfl, hk1, hk2, GS⟩ := hrel
          by_cases hlt : k < m
          · have hlt' : (k : Int) < (m : Int) := by omega
            have hk0 : (0 : Int) ≤ (k : Int) := by omega
            obtain ⟨j, hj⟩ : ∃ j, k = j + 1 := ⟨k - 1, by omega⟩
            have hjk : IntKind.i64.wrap ((k : Int) - 1) = (j : Int) := by rw [IntKind.wrap_i64]; omega
            have hj0 : (0 : Int) ≤ (j : Int) := by omega
            have hjm : (j : Int) < (m : Int) := by omega
            have hkM : k < M.length := by have := HNN.out.2; omega
            have hjM : j < M.length := by omega
            obtain ⟨x, hx⟩ : ∃ x, M[j]? = some x := ⟨_, List.getElem?_eq_getElem hjM⟩
            obtain ⟨y, hy⟩ : ∃ y, M[k]? = some y := ⟨_, List.getElem?_eq_getElem hkM⟩
            obtain ⟨r, hr⟩ : ∃ r, r = cf x y := ⟨_, rfl⟩
            have hr0 : r < 0 := by
              rw [hr]
              have h1 := List.pairwise_iff_getElem.1 HM.out.1 j k hjM hkM (by omega)
              rw [List.getElem?_eq_getElem hjM] at hx
              rw [List.getElem?_eq_getElem hkM] at hy
              rw [← Option.some.inj hx, ← Option.some.inj hy]
              exact h1
            have hxr : wr.rangeAt g (j * 21) (enc x) := by have := GS.out.2.1 j x hx; rw [Nat.zero_add] at this; exact this
            have hyr : wr.rangeAt g (k * 21) (enc y) := by have := GS.out.2.1 k y hy; rw [Nat.zero_add] at this; exact this
            have hgw : g < wr.heap.size := GS.out.2.2
            obtain ⟨WO, hWO⟩ : ∃ WO : World, WO = wr := ⟨_, rfl⟩
            subst hWO
            have HLX : Hid (∀ W, Below WO.heap.size WO W → (Instr.loadAt 25 (.pointer (some ⟨g, j * 21, none⟩))).run Tryd.prog W = .ok (.agg (lab x.h x.s)) W) := fun W hW => run_ldx W g _ x (fun q u hu => (World.cell?_of_block (w := WO) (hW.block g hgw)).trans (hxr q u hu))
            have HLY : Hid (∀ W, Below WO.heap.size WO W → (Instr.loadAt 25 (.pointer (some ⟨g, k * 21, none⟩))).run Tryd.prog W = .ok (.agg (lab y.h y.s)) W) := fun W hW => run_ldx W g _ y (fun q u hu => (World.cell?_of_block (w := WO) (hW.block g hgw)).trans (hyr q u hu))
            have HCM : Hid (∀ W, Below WO.heap.size WO W → Calls Tryd.prog 5 #[.agg (lab x.h x.s), .agg (lab y.h y.s)] W fun e w' => e = .returned (.int .i64 r) ∧ Below WO.heap.size WO w') := by
              rw [hr]
              exact fun W hW => (cmp_c x y W).mono fun e w' ⟨a, b⟩ => ⟨a, hW.trans (b.mono hW.size)⟩
            clear hx hy hr hxr hyr hgw hkM hjM hj
            go_wp2_with fail
            refine wp_region_vals (ops := reg17) (V := V17 g m n j k x y r) (S := fun _ W => Below WO.heap.size WO W) (by kernel_rfl) (fun i o ho => (okR_at okR17 ho).1) (fun i j o oj d ho hj q1 q2 => (okR_at okR17 ho).2.2 j oj d hj q1 q2) (fun i o d ho q => (okR_at okR17 ho).2.1 d q)
              (step17 _ g m n j k x y r _ _ rfl rfl (fun _ _ _ _ h => h) (fun _ W h _ _ _ => HCM.out W h) (fun _ W h _ _ _ => ⟨W, HLX.out W h, h⟩) (fun _ W h _ _ _ => ⟨W, HLY.out W h, h⟩) hjk hj0 hjm hk0 hlt') (Below.drewN' (Below.refl _ _) 1) (fun wE hE => ?_)
            rw [put17]
            dsimp only [V17]
            have GE : Hid (Gd a b c (.slice o n cp) L w wE ∧ Lr g 0 M wE ∧ g < wE.heap.size) := by
              obtain ⟨h1, h2, h3⟩ := GS.out
              exact ⟨h1.below hE, h2.keep (hE.block g h3), Nat.lt_of_lt_of_le h3 hE.size⟩
            have hr1 : decide (0 ≤ r) = false := decide_eq_false (by omega)
            rw [hr1]
            clear hE HCM HLX HLY GS hr0 hr1
            go_wp2
            exact ⟨⟨k + 1, by rfl, by omega, .inl (by omega), GE⟩, by simp only [intOf]; omega⟩
          · have hlt' : ¬ ((k : Int) < (m : Int)) := by omega
            have hgw : g < wr.heap.size := GS.out.2.2
            have hlm : Ls (.slice (some ⟨g, 0, none⟩) m n) M wr := by
              rw [HNN.out.2]
              refine .inr ⟨g, 0, n, rfl, by rw [← HNN.out.2]; exact hmn2.out, by unfold maxLen; omega, hgw, GS.out.2.1⟩
            have A1 : Hid (Calls Tryd.prog 9 #[.slice o n cp, .slice (some ⟨g, 0, none⟩) m n] wr fun e w' => e = .returned (.bool true) ∧ ∃ q, w' = wr.drewN q) := by
              have := within_any L M (by rw [← HNN.out.1]; exact hn2) (by rw [← HNN.out.2]; exact hm2) _ _ wr GS.out.1.ls hlm
              rw [decide_eq_true (fun x hx => (HM.out.2 x).2 hx)] at this
              exact this
            have A2 : Hid (∀ q, Calls Tryd.prog 9 #[.slice (some ⟨g, 0, none⟩) m n, .slice o n cp] (wr.drewN q) fun e w' => e = .returned (.bool true) ∧ ∃ q', w' = (wr.drewN q).drewN q') := by
              intro q
              have := within_any M L (by rw [← HNN.out.2]; exact hm2) (by rw [← HNN.out.1]; exact hn2) _ _ (wr.drewN q) (hlm.below (Below.drewN' (Below.refl _ _) q)) (GS.out.1.ls.below (Below.drewN' (Below.refl _ _) q))
              rw [decide_eq_true (fun x hx => (HM.out.2 x).1 hx)] at this
              exact this
            have HB : Hid (Below w.heap.size w wr) := GS.out.1.bl
            clear hlm GS hgw
            go_wp2_with fail
            refine A1.out.mono ?_
            rintro e W8 ⟨rfl, q, rfl⟩
            go_wp2_with fail
            refine (A2.out q).mono ?_
            rintro e W9 ⟨rfl, q', rfl⟩
            go_wp2
            go_ret
            exact ⟨rfl, Below.drewN' HB.out _⟩
end Go.Proofs.YthbjlhafagcidaaDoor
