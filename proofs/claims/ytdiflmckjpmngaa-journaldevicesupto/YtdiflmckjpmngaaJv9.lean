/- JournalDevices: the document's At, not refused. -/
import Derived.Test.YtdiflmckjpmngaaJv8
namespace Go.Proofs.Ytdiflmckjpmngaa
open Go.RowKit
theorem Ro.vsl [Inhabited HoleT] {lo v : Nat} {W : World} {ov : Value} {B : List Nat × List Nat} {s : Fl × Fl} {xs : List (Array Value)} {os : List Opn} (h : Ro lo W v ov B s xs os) : ∃ oa cap, ov = .slice oa xs.length cap ∧ (0 < xs.length → ∃ g, oa = some ⟨g, 0, none⟩ ∧ g < W.heap.size ∧ ∀ (i : Nat) m, xs[i]? = some m → W.rangeAt g (i * 4) m.toList) := by
  have hz : ∀ m ∈ xs, m.size = 4 := fun m hm => by
    obtain ⟨i, hi, he⟩ := List.getElem_of_mem hm
    obtain ⟨pv, e, -⟩ := h.each i m (os[i]'(by rw [h.len]; exact hi)) (by rw [List.getElem?_eq_getElem hi, he]) (List.getElem?_eq_getElem _)
    rw [e]
    rfl
  rcases h.own.2 with ⟨h1, h2⟩ | ⟨g, cap, cur, h1, h2⟩
  · exact ⟨none, 0, by rw [h1, h2], fun q => by omega⟩
  · exact ⟨some ⟨g, 0, none⟩, cap, h1, fun _ => ⟨g, rfl, (h.own.lt g (by rw [h1]; rfl)).2, fun i m hm => own_at h.own (by rw [h1]; rfl) hz i m hm⟩⟩
section
attribute [local go_sem ↓] toApB toLdD toStD toSlB toLdO Go.wp_at_zero Go.wp_at_succ
set_option maxRecDepth 100000 in
set_option maxHeartbeats 6400000 in
theorem AtR_good [Inhabited HoleT] {lo v : Nat} {W : World} {ov : Value} {B : List Nat × List Nat} {s : Fl × Fl} {xs : List (Array Value)} {os : List Opn} (h : Ro lo W v ov B s xs os) (htr : ∀ (i : Nat) o, os[i]? = some o → okO o (stt B (os.take i))) (hB : B.1.length ≤ 50000000000000 ∧ B.2.length ≤ 50000000000000) (n k0 k1 : Nat) (hn : n ≤ xs.length) (hbig : xs.length < 1000000) (hk0 : k0 < 9223372036854775808) (hk1 : k1 < 9223372036854775808) (t : Fl × Fl) (ht : stt B (os.take n) = t) : Calls Try.prog 19 #[.pointer (some ⟨v, 0, none⟩), .int .i64 (n : Int), .agg #[.int .i64 (k0 : Int), .int .i64 (k1 : Int)]] W fun e w' => ∃ c, e = .returned (.tuple #[c, .int .i64 0]) ∧ DkB W (t.1.1 ++ t.1.2.take (min k0 t.1.2.length)) (t.2.1 ++ t.2.2.take (min k1 t.2.2.length)) c w' := by
  obtain ⟨K0, hK0⟩ : ∃ K, min k0 t.1.2.length = K := ⟨_, rfl⟩
  obtain ⟨K1, hK1⟩ : ∃ K, min k1 t.2.2.length = K := ⟨_, rfl⟩
  rw [hK0, hK1]
  have HKm : Hid (min k0 t.1.2.length = K0 ∧ min k1 t.2.2.length = K1) := ⟨hK0, hK1⟩
  clear hK0 hK1
  obtain ⟨oV, cV, hov, hops⟩ := h.vsl
  obtain ⟨b0, b1, s0, s1, l0, l1, hr, hb0, hb1, -⟩ := h.rw.row
  have hvW : v < W.heap.size := (Array.getElem?_eq_some_iff.1 hr).1
  obtain ⟨W2, hW2⟩ : ∃ W2, (W.alloc (.cells #[.int .i64 (k0 : Int), .int .i64 (k1 : Int)] 33)).alloc (.cells #[.slice none 0 0, .slice none 0 0] 28) = W2 := ⟨_, rfl⟩
  have b2 : Below W.heap.size W W2 := by rw [← hW2]; exact below2 _ _ _
  have hz2 : W2.heap.size = W.heap.size + 2 := by rw [← hW2]; simp
  have rK : W2.heap[W.heap.size]? = some (.cells #[.int .i64 (k0 : Int), .int .i64 (k1 : Int)] 33 (0, 0)) := by rw [← hW2]; exact (heap_alloc_old _ _ (h := by simp)).trans (heap_alloc_new _ _)
  have rA : W2.heap[W.heap.size + 1]? = some (.cells zD 28 (0, 0)) := by rw [← hW2]; exact row2n _ _ _
  have c2 : W2.cell? ⟨v, 2, none⟩ = some (.slice oV xs.length cV) := by rw [cell_of_row _ _ _ _ _ _ ((b2.block v hvW).trans hr), ← hov]; rfl
  have ld7 := ld_D7 W2 v b0 b1 ov s0 s1 l0 l1 ((b2.block v hvW).trans hr)
  have hq : ∀ j, Qd lo W v ov j → j < W.heap.size := fun j hj => hj.2.1
  obtain ⟨ob0, cb0, hbv0⟩ := bl_sl (hb0.bl hq)
  obtain ⟨ob1, cb1, hbv1⟩ := bl_sl (hb1.bl hq)
  have C : Hid _ := NewR_any W2 b0 b1 B.1 B.2 ((hb0.bl hq).below b2) ((hb1.bl hq).below b2) (by unfold LIM; omega) (by unfold LIM; omega)
  have HW : Hid ((W.alloc (.cells #[.int .i64 (k0 : Int), .int .i64 (k1 : Int)] 33)).alloc (.cells #[.slice none 0 0, .slice none 0 0] 28) = W2) := hW2
  have HHB : Hid (holeB ≤ W2.heap.size) := Nat.le_trans h.hb b2.size
  have HG : Hid (Below W.heap.size W W2 ∧ W2.heap.size = W.heap.size + 2 ∧ W2.heap[W.heap.size + 1]? = some (.cells zD 28 (0, 0)) ∧ stt B (os.take n) = t ∧ (B.1.length ≤ 50000000000000 ∧ B.2.length ≤ 50000000000000) ∧ n ≤ xs.length ∧ xs.length < 1000000 ∧ k0 < 9223372036854775808 ∧ k1 < 9223372036854775808) := ⟨b2, hz2, rA, ht, hB, hn, hbig, hk0, hk1⟩
  have HC : Hid (∀ wr, Below W2.heap.size W2 wr → wr.cell? ⟨v, 2, none⟩ = some (.slice oV xs.length cV) ∧ wr.cell? ⟨W.heap.size, 0, none⟩ = some (.int .i64 (k0 : Int)) ∧ wr.cell? ⟨W.heap.size, 1, none⟩ = some (.int .i64 (k1 : Int))) := fun wr hb => ⟨below_cell hb c2, below_cell hb (by rw [cell_of_row _ _ _ _ _ _ rK]; rfl), below_cell hb (by rw [cell_of_row _ _ _ _ _ _ rK]; rfl)⟩
  have HO : Hid (∀ wr i, Below W2.heap.size W2 wr → Rw W2.heap.size wr (W2.heap.size + 1) (.slice none 0 0) B (stt B (os.take i)).1 (stt B (os.take i)).2 → i < n → ∃ g, oV = some ⟨g, 0, none⟩ ∧ ∃ q0 q1 op q2 cp q3, (ldO (.pointer (some ⟨g, i * 4, none⟩))).run Try.prog wr = .ok (.agg #[.int .i64 q0, .int .i64 q1, .slice op q2 cp, .int .i64 q3]) wr ∧ Calls Try.prog 35 #[.pointer (some ⟨W2.heap.size + 1, 0, none⟩), .agg #[.int .i64 q0, .int .i64 q1, .slice op q2 cp, .int .i64 q3]] wr fun e w' => e = .returned (.tuple #[]) ∧ Rw W2.heap.size w' (W2.heap.size + 1) (.slice none 0 0) B (stt B (os.take (i + 1))).1 (stt B (os.take (i + 1))).2 ∧ Below W2.heap.size W2 w') := fun wr i hb hw hi => by
    obtain ⟨g, hg, hgW, hrg⟩ := hops (by omega)
    have hix : i < xs.length := by omega
    have hio : i < os.length := by rw [h.len]; exact hix
    obtain ⟨pv, ha, hp⟩ := h.each i xs[i] os[i] (List.getElem?_eq_getElem hix) (List.getElem?_eq_getElem hio)
    obtain ⟨op, cp, hpp, -⟩ := id hp
    have hbs := hb.size
    have hbW : Below W.heap.size W wr := b2.trans (hb.mono (by omega))
    refine ⟨g, hg, (os[i].1 : Int), (os[i].2.1 : Int), op, os[i].2.2.1.length, cp, (os[i].2.2.2 : Int), ?_, ?_⟩
    · have := ld_O wr g (i * 4) (opA os[i] pv) rfl (by rw [← ha]; exact fun j u hu => (World.cell?_of_block (w := W) (a := ⟨g, i * 4 + j, none⟩) (hbW.block g hgW)).trans (hrg i xs[i] (List.getElem?_eq_getElem hix) j u hu))
      rw [this, opA, hpp]
    · have D := does_any (s := stt B (os.take i)) hw (by omega) (by have := h.hb; have := b2.size; omega) (fun g hg => by cases hg) ⟨_, _, _, rfl⟩ os[i] pv (hp.keep (fun j hj => hbW.block j hj.2.1) (fun j hj => ⟨by have := hj.2.1; omega, by have := hj.2.1; omega⟩)) (htr i os[i] (List.getElem?_eq_getElem hio))
      rw [opA, hpp] at D
      refine D.mono ?_
      rintro e w' ⟨he, hR, hF⟩
      rw [stt_succ B os i os[i] (List.getElem?_eq_getElem hio)]
      exact ⟨he, hR, hF.os.trans hb.os, hF.tape.trans hb.tape, hF.output.trans hb.output, Nat.le_trans hb.size hF.size, fun j hj => (hF.block j (by omega) (by omega)).trans (hb.block j hj)⟩
  have d0 : decide ((n : Int) < 0) = false := decide_eq_false (by omega)
  have d1 : decide ((xs.length : Int) < (n : Int)) = false := decide_eq_false (by omega)
  have d4 : ¬ xs.length < n := by omega
  have d2 : decide ((k0 : Int) < 0) = false := decide_eq_false (by omega)
  have d3 : decide ((k1 : Int) < 0) = false := decide_eq_false (by omega)
  obtain ⟨bn0, hbn0⟩ : ∃ m, B.1.length = m := ⟨_, rfl⟩
  obtain ⟨bn1, hbn1⟩ : ∃ m, B.2.length = m := ⟨_, rfl⟩
  rw [hbn0] at hbv0
  rw [hbn1] at hbv1
  subst hbv0 hbv1
  rw [← HW.out] at c2 ld7
  obtain ⟨N, hN⟩ : ∃ N, xs.length = N := ⟨_, rfl⟩
  rw [hN] at c2 d1 d4 HC
  have HNN : Hid (xs.length = N) := hN
  clear h htr hB hn hbig hk0 hk1 ht hov hops hr hb0 hb1 hvW hW2 b2 hz2 rK rA hq hbn0 hbn1 hN
  go_enter Try.func19, Try.ntmps19
  go_wp2_with fail
  rw [HW.out]
  refine Calls.mono C.out ?_
  rintro e X ⟨rfl, cX, hX⟩
  have HX : Hid (Below W2.heap.size W2 X ∧ Rw W2.heap.size X (W2.heap.size + 1) (.slice none 0 0) B (stt B (os.take 0)).1 (stt B (os.take 0)).2) := ⟨hX.bel, (nr_ro hX HG.out.2.2.2.2.1.1 HG.out.2.2.2.2.1.2 HHB.out).rw⟩
  obtain ⟨vb, hvb⟩ : ∃ vb, W2.heap.size + 1 = vb := ⟨_, rfl⟩
  have HV : Hid (W2.heap.size + 1 = vb) := hvb
  rw [hvb] at HX HO ⊢
  clear hX C c2 ld7 d0 d1 d2 d3 d4 hvb
  go_wp2_with fail
  go_loopw [9] (fun iv wr => ∃ (i : Nat), iv = .int .i64 (i : Int) ∧ Hid (i ≤ n ∧ Below W2.heap.size W2 wr ∧ Rw W2.heap.size wr vb (.slice none 0 0) B (stt B (os.take i)).1 (stt B (os.take i)).2)) (fun iv _ => n - (intOf iv).toNat)
  case atStart => exact ⟨0, rfl, ⟨Nat.zero_le _, HX.out.1, HX.out.2⟩⟩
  case round =>
    obtain ⟨i, rfl, HR⟩ := hrel
    by_cases hgo : i < n
    · have hi1 : (i : Int) < (n : Int) := by omega
      have hi0 : (0 : Int) ≤ (i : Int) := by omega
      obtain ⟨-, hbw, hrw⟩ := HR.out
      obtain ⟨g, rfl, q0, q1, op, q2, cp, q3, ldo, D⟩ := HO.out wr i hbw hrw hgo
      have a2 := (HC.out wr hbw).1
      have hiN : (i : Int) < (N : Int) := by have := HG.out.2.2.2.2.2.1; rw [HNN.out] at this; omega
      have hi3 : (i : Int) < 1000000 := by have := HG.out.2.2.2.2.2.2.1; have := HG.out.2.2.2.2.2.1; omega
      have HD : Hid _ := D
      clear hbw hrw D HX
      go_wp2_with fail
      refine Calls.mono HD.out ?_
      rintro e w' ⟨rfl, hR2, hB2⟩
      have H2 : Hid _ := And.intro hB2 hR2
      clear hR2 hB2
      go_wp2_with fail
      go_roundw
      case rel => exact ⟨i + 1, by go_num, ⟨by omega, H2.out⟩⟩
      case measure => simp [intOf]; omega
    · have hi1 : ¬ (i : Int) < (n : Int) := by omega
      obtain ⟨hin, hbw, hrw⟩ := HR.out
      obtain rfl : i = n := by omega
      rw [HG.out.2.2.2.1] at hrw
      obtain ⟨P, hP⟩ : ∃ P, P = wr := ⟨_, rfl⟩
      subst hP
      obtain ⟨_, _, s0, s1, l0, l1, hr, -, -, hs0, hs1, hl0, hl1⟩ := hrw.row
      have hlim := hrw.lims
      have hvw : vb < P.heap.size := (Array.getElem?_eq_some_iff.1 hr).1
      obtain ⟨so0, sc0, hsv0, -⟩ := id hs0
      obtain ⟨so1, sc1, hsv1, -⟩ := id hs1
      obtain ⟨lo0, lc0, hlv0, -, hlc0, -⟩ := id hl0
      obtain ⟨lo1, lc1, hlv1, -, hlc1, -⟩ := id hl1
      obtain ⟨n0, hn0⟩ : ∃ n, t.1.1.length = n := ⟨_, rfl⟩
      obtain ⟨n1, hn1⟩ : ∃ n, t.2.1.length = n := ⟨_, rfl⟩
      obtain ⟨m0, hm0⟩ : ∃ n, t.1.2.length = n := ⟨_, rfl⟩
      obtain ⟨m1, hm1⟩ : ∃ n, t.2.2.length = n := ⟨_, rfl⟩
      obtain ⟨hK0, hK1⟩ := HKm.out
      have hKK0 : K0 ≤ t.1.2.length ∧ (m0 < k0 → K0 = m0) ∧ (¬ m0 < k0 → K0 = k0) := by omega
      have hKK1 : K1 ≤ t.2.2.length ∧ (m1 < k1 → K1 = m1) ∧ (¬ m1 < k1 → K1 = k1) := by omega
      rw [hn0] at hsv0
      rw [hn1] at hsv1
      rw [hm0] at hlv0
      rw [hm1] at hlv1
      subst hsv0 hsv1 hlv0 hlv1
      have HD : Hid (∀ w, Below P.heap.size P w → ∀ k, w.cell? ⟨vb, k, none⟩ = (#[_, _, .slice none 0 0, .slice so0 n0 sc0, .slice so1 n1 sc1, .slice lo0 m0 lc0, .slice lo1 m1 lc1] : Array Value)[k]?) := fun w hb k => by rw [cell_of_row _ _ _ _ _ _ ((hb.block vb hvw).trans hr)]
      have hq : ∀ j, Qd W2.heap.size P vb (.slice none 0 0) j → j < P.heap.size := fun j hj => hj.2.1
      have HB : Hid (Bl P (.slice so0 n0 sc0) t.1.1 ∧ Bl P (.slice so1 n1 sc1) t.2.1 ∧ Bq (fun g => g < P.heap.size) P (.slice lo0 K0 lc0) (t.1.2.take K0) ∧ Bq (fun g => g < P.heap.size) P (.slice lo1 K1 lc1) (t.2.2.take K1) ∧ t.1.1.length + (t.1.2.take K0).length ≤ LIM ∧ t.2.1.length + (t.2.2.take K1).length ≤ LIM) := ⟨hs0.bl hq, hs1.bl hq, (hl0.keep (fun _ _ => rfl) hq).take K0 hKK0.1, (hl1.keep (fun _ _ => rfl) hq).take K1 hKK1.1, by rw [List.length_take]; unfold LIM; omega, by rw [List.length_take]; unfold LIM; omega⟩
      have hsl0 := fun w => run_slK w lo0 m0 lc0 K0 (by omega)
      have hsl1 := fun w => run_slK w lo1 m1 lc1 K1 (by omega)
      have HNM : Hid (t.1.1.length = n0 ∧ t.2.1.length = n1) := ⟨hn0, hn1⟩
      have hbs := hbw.size
      have hz2 := HG.out.2.1
      obtain ⟨R, hRe⟩ : ∃ R, P.heap.size = R := ⟨_, rfl⟩
      obtain ⟨X2, hX2⟩ : ∃ X2, P.alloc (.cells zD 28) = X2 := ⟨_, rfl⟩
      have bX2 : Below P.heap.size P X2 := by rw [← hX2]; exact (Below.refl _ P).alloc (Nat.le_refl _) _
      have HS : Hid ((∃ c, Dr W (W.heap.size + 1) R X2 c [[], []]) ∧ Below P.heap.size P X2) := by
        refine ⟨⟨zD, HG.out.1.trans ((hbw.trans (bX2.mono hbs)).mono (by omega)), ⟨by omega, by omega⟩, (bX2.block _ (by omega)).trans ((hbw.block _ (by omega)).trans HG.out.2.2.1), by rw [← hX2, ← hRe]; exact heap_alloc_new _ _, rfl, fun i l hi => ?_⟩, bX2⟩
        have hi7 : i < 2 := by have := (List.getElem?_eq_some_iff.1 hi).1; simpa using this
        have hl : l = [] := by
          match i, hi7 with
          | 0, _ | 1, _ => simpa using hi.symm
        subst hl
        refine ⟨.slice none 0 0, ?_, bq_nil _ _⟩
        match i, hi7 with
        | 0, _ | 1, _ => rfl
      have HW2 : Hid (P.alloc (.cells #[.slice none 0 0, .slice none 0 0] 28) = X2 ∧ P.heap.size = R ∧ Below W2.heap.size W2 P ∧ W2.heap.size ≤ P.heap.size) := ⟨hX2, hRe, hbw, hbs⟩
      have HK : Hid ((m0 < k0 → K0 = m0) ∧ (¬ m0 < k0 → K0 = k0) ∧ (m1 < k1 → K1 = m1) ∧ (¬ m1 < k1 → K1 = k1)) := ⟨hKK0.2.1, hKK0.2.2, hKK1.2.1, hKK1.2.2⟩
      clear hbw hrw hr hs0 hs1 hl0 hl1 hlim hvw hlc0 hlc1 hn0 hn1 hm0 hm1 hK0 hK1 hKK0 hKK1 hq hbs hz2 hRe hX2 bX2 HX HR hin hgo
      go_wp2_with fail
      rw [HW2.out.1, HW2.out.2.1]
      go_loopw [11] (fun iv w => (iv = .int .i64 0 ∧ Hid ((∃ c, Dr W (W.heap.size + 1) R w c [[], []]) ∧ Below P.heap.size P w)) ∨ (iv = .int .i64 1 ∧ Hid ((∃ c, Dr W (W.heap.size + 1) R w c [t.1.1 ++ t.1.2.take K0, []]) ∧ Below P.heap.size P w)) ∨ (iv = .int .i64 2 ∧ Hid ((∃ c, Dr W (W.heap.size + 1) R w c [t.1.1 ++ t.1.2.take K0, t.2.1 ++ t.2.2.take K1]) ∧ Below P.heap.size P w))) (fun iv _ => 2 - (intOf iv).toNat)
      case atStart => exact .inl ⟨rfl, HS⟩
      case round =>
        rcases hrel with ⟨rfl, HR⟩ | ⟨rfl, HR⟩ | ⟨rfl, HR⟩
        · obtain ⟨⟨c, hN⟩, hbP⟩ := HR.out
          have bd : Below P.heap.size P wr.drew := ⟨hbP.os, hbP.tape, hbP.output, hbP.size, hbP.block⟩
          have kq : Bq (fun g => g < P.heap.size) wr.drew (.slice lo0 K0 lc0) _ := HB.out.2.2.1.keep (fun j hj => bd.block j hj) (fun _ h => h)
          obtain ⟨Y, zo, zn, zc, Z, hY, C, hap, hbZ, hu⟩ := cat_step (HB.out.1.below bd) kq (fun j hj => Nat.lt_of_lt_of_le hj bd.size) HB.out.2.2.2.2.1
          have bY : Below P.heap.size P Y := by rw [hY]; exact bd.alloc bd.size _
          obtain ⟨g2, g3, hN2⟩ := dr_step hN (Z := Z) ⟨hbZ.os, hbZ.tape, hbZ.output, hbZ.size, hbZ.block⟩ 0 (by omega) _ _ hu
          have HF : Hid ((∃ c, Dr W (W.heap.size + 1) R (Z.setCell ⟨R, 0, none⟩ (.slice zo zn zc)) c [t.1.1 ++ t.1.2.take K0, []]) ∧ Below P.heap.size P (Z.setCell ⟨R, 0, none⟩ (.slice zo zn zc))) := ⟨⟨_, hN2⟩, (bd.trans (hbZ.mono bd.size)).setCell (by show P.heap.size ≤ R; rw [HW2.out.2.1]; exact Nat.le_refl _) _⟩
          have ak : wr.cell? ⟨W.heap.size, 0, none⟩ = some (.int .i64 (k0 : Int)) := (HC.out wr (HW2.out.2.2.1.trans (hbP.mono HW2.out.2.2.2))).2.1
          have al : wr.cell? ⟨vb, 5, none⟩ = some (.slice lo0 m0 lc0) := HD.out _ hbP 5
          have a3 : wr.drew.cell? ⟨vb, 3, none⟩ = some (.slice so0 n0 sc0) := HD.out _ bd 3
          have a5 : wr.drew.cell? ⟨vb, 5, none⟩ = some (.slice lo0 m0 lc0) := HD.out _ bd 5
          have a5Y : Y.cell? ⟨vb, 5, none⟩ = some (.slice lo0 m0 lc0) := HD.out _ bY 5
          obtain ⟨q1, hq1⟩ : ∃ q, c[0]! = q := ⟨_, rfl⟩
          rw [hq1] at g2
          rw [HNM.out.1] at C hap
          rw [show wr.drew.heap.size = wr.heap.size from rfl] at C hap
          have D1 : Hid _ := C
          have hkk := HK.out
          clear hN hN2 hY C hbZ hu hq1 bd kq bY HR hbP
          by_cases hlt : m0 < k0
          · have w1 : (m0 : Int) < (k0 : Int) := by omega
            have hke : K0 = m0 := hkk.1 hlt
            rw [hke] at hap hsl0
            clear hkk hke
            go_wp2_with fail
            go_region_with (go_at_call 32; refine Calls.mono D1.out ?_; rintro e Y' ⟨rfl, hy⟩; have hy2 := hy.symm; subst hy2)
            all_goals
              go_wp2_with fail
              go_roundw
              case rel => exact .inr (.inl ⟨by go_num, HF⟩)
              case measure => simp [intOf]
          · have w1 : ¬ (m0 : Int) < (k0 : Int) := by omega
            have hke : K0 = k0 := hkk.2.1 hlt
            rw [hke] at hap hsl0
            clear hkk hke
            go_wp2_with fail
            go_region_with (go_at_call 32; refine Calls.mono D1.out ?_; rintro e Y' ⟨rfl, hy⟩; have hy2 := hy.symm; subst hy2)
            all_goals
              go_wp2_with fail
              go_roundw
              case rel => exact .inr (.inl ⟨by go_num, HF⟩)
              case measure => simp [intOf]
        · obtain ⟨⟨c, hN⟩, hbP⟩ := HR.out
          have bd : Below P.heap.size P wr.drew := ⟨hbP.os, hbP.tape, hbP.output, hbP.size, hbP.block⟩
          have kq : Bq (fun g => g < P.heap.size) wr.drew (.slice lo1 K1 lc1) _ := HB.out.2.2.2.1.keep (fun j hj => bd.block j hj) (fun _ h => h)
          obtain ⟨Y, zo, zn, zc, Z, hY, C, hap, hbZ, hu⟩ := cat_step (HB.out.2.1.below bd) kq (fun j hj => Nat.lt_of_lt_of_le hj bd.size) HB.out.2.2.2.2.2
          have bY : Below P.heap.size P Y := by rw [hY]; exact bd.alloc bd.size _
          obtain ⟨g2, g3, hN2⟩ := dr_step hN (Z := Z) ⟨hbZ.os, hbZ.tape, hbZ.output, hbZ.size, hbZ.block⟩ 1 (by omega) _ _ hu
          have HF : Hid ((∃ c, Dr W (W.heap.size + 1) R (Z.setCell ⟨R, 1, none⟩ (.slice zo zn zc)) c [t.1.1 ++ t.1.2.take K0, t.2.1 ++ t.2.2.take K1]) ∧ Below P.heap.size P (Z.setCell ⟨R, 1, none⟩ (.slice zo zn zc))) := ⟨⟨_, hN2⟩, (bd.trans (hbZ.mono bd.size)).setCell (by show P.heap.size ≤ R; rw [HW2.out.2.1]; exact Nat.le_refl _) _⟩
          have ak : wr.cell? ⟨W.heap.size, 1, none⟩ = some (.int .i64 (k1 : Int)) := (HC.out wr (HW2.out.2.2.1.trans (hbP.mono HW2.out.2.2.2))).2.2
          have al : wr.cell? ⟨vb, 6, none⟩ = some (.slice lo1 m1 lc1) := HD.out _ hbP 6
          have a3 : wr.drew.cell? ⟨vb, 4, none⟩ = some (.slice so1 n1 sc1) := HD.out _ bd 4
          have a5 : wr.drew.cell? ⟨vb, 6, none⟩ = some (.slice lo1 m1 lc1) := HD.out _ bd 6
          have a5Y : Y.cell? ⟨vb, 6, none⟩ = some (.slice lo1 m1 lc1) := HD.out _ bY 6
          obtain ⟨q1, hq1⟩ : ∃ q, c[1]! = q := ⟨_, rfl⟩
          rw [hq1] at g2
          rw [HNM.out.2] at C hap
          rw [show wr.drew.heap.size = wr.heap.size from rfl] at C hap
          have D1 : Hid _ := C
          have hkk := HK.out
          clear hN hN2 hY C hbZ hu hq1 bd kq bY HR hbP
          by_cases hlt : m1 < k1
          · have w1 : (m1 : Int) < (k1 : Int) := by omega
            have hke : K1 = m1 := hkk.2.2.1 hlt
            rw [hke] at hap hsl1
            clear hkk hke
            go_wp2_with fail
            go_region_with (go_at_call 32; refine Calls.mono D1.out ?_; rintro e Y' ⟨rfl, hy⟩; have hy2 := hy.symm; subst hy2)
            all_goals
              go_wp2_with fail
              go_roundw
              case rel => exact .inr (.inr ⟨by go_num, HF⟩)
              case measure => simp [intOf]
          · have w1 : ¬ (m1 : Int) < (k1 : Int) := by omega
            have hke : K1 = k1 := hkk.2.2.2 hlt
            rw [hke] at hap hsl1
            clear hkk hke
            go_wp2_with fail
            go_region_with (go_at_call 32; refine Calls.mono D1.out ?_; rintro e Y' ⟨rfl, hy⟩; have hy2 := hy.symm; subst hy2)
            all_goals
              go_wp2_with fail
              go_roundw
              case rel => exact .inr (.inr ⟨by go_num, HF⟩)
              case measure => simp [intOf]
        · obtain ⟨⟨c, hN⟩, -⟩ := HR.out
          have ld := ld_Drow wr _ _ hN.sz hN.row
          obtain ⟨o0, j0, c0, o1, j1, c1, rfl, hrow, hD⟩ := dr_end hN
          have st := st_D wr (W.heap.size + 1) zD #[.slice o0 j0 c0, .slice o1 j1 c1] rfl rfl (by simp [Value.oneCell']) hN.res
          have HF : Hid _ := And.intro hrow hD
          clear hN hrow hD HR
          go_wp2_with fail
          refine bodyPost_ret (results_Dt rfl _ _ (W.heap.size + 1) _ rfl rfl HF.out.1) rfl ?_
          exact ⟨_, rfl, HF.out.2⟩
end
end Go.Proofs.Ytdiflmckjpmngaa
