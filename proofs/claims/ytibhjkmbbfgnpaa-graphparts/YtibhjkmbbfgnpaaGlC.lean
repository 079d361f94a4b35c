/- Graphs in order: the heap. -/
import Derived.Test.YtibhjkmbbfgnpaaGlB
namespace Go.Proofs.Ytibhjkmbbfgnpaa
open Go.RowKit
set_option maxRecDepth 100000 in
set_option maxHeartbeats 1600000 in
theorem mpop_any (w : World) (fb : Nat) (v : Value) (F : List Nat) (x : Nat) (h : Hp fb v (F ++ [x]) w) (hn : F.length ≤ 1000000) : Calls Try.prog 122 #[.pointer (some ⟨fb, 0, none⟩)] w fun e w' => e = .returned (.iface 3 (.int .i64 (x : Int))) ∧ ∃ v', Hp fb v' F w' ∧ Ch fb v v' w w' := by
  obtain ⟨b, c, -, rfl, hb, hc⟩ := own_at h.own (by simp)
  obtain ⟨n, hl⟩ : ∃ n, F.length = n := ⟨_, rfl⟩
  have c0 := h.cell.1
  have f0 := h.cell.2
  have c1 : w.cell? ⟨b, n, none⟩ = some (.int .i64 (x : Int)) := by
    have := hc n (by simp [hl])
    simpa [List.getD, ← hl] using this
  have hcap : n + 1 ≤ c := by
    obtain ⟨_, h1⟩ := h.own
    rcases h1 with ⟨q, -⟩ | ⟨g, cap, cur, q, -, hg, hnc, -⟩
    · cases q
    · injection q with q1 q2 q3
      subst q3
      simpa [hl] using hnc
  obtain ⟨Z, hZ⟩ : ∃ Z, w.setCell ⟨fb, 0, none⟩ (.slice (some ⟨b, 0, none⟩) n c) = Z := ⟨_, rfl⟩
  have HP : Hid (Hp fb (.slice (some ⟨b, 0, none⟩) n c) F Z ∧ Ch fb (.slice (some ⟨b, 0, none⟩) (n + 1) c) (.slice (some ⟨b, 0, none⟩) n c) w Z) := by
    have hne : b ≠ fb := fun q => h.ne (by rw [q]; rfl)
    rw [← hZ]
    refine ⟨⟨heap_setCell_same _ _ _ _ _ _ h.row, ?_⟩, rfl, rfl, rfl, by simp, fun k _ hf _ => heap_setCell_other _ _ _ _ (by show k ≠ fb; exact hf), fun k hk => .inl hk⟩
    obtain ⟨h0, h1⟩ := h.own
    rcases h1 with ⟨q, -⟩ | ⟨g, cap, cur, q, hB, hg, hnc, hcm, hcs, htk⟩
    · cases q
    · injection q with q1 q2 q3
      injection q1 with q1
      injection q1 with q1
      subst q1 q3
      refine ⟨by simp [ik], .inr ⟨b, c, cur, by rw [hl], hB, (heap_setCell_other _ _ _ _ (by show b ≠ fb; exact hne)).trans hg, by omega, hcm, hcs, ?_⟩⟩
      have e : (ik F).toList = ((ik (F ++ [x])).toList).take F.length := by simp [ik]
      rw [e, ← htk, List.take_take]
      congr 1
      simp
  have e1 : (F ++ [x]).length = n + 1 := by simp [hl]
  rw [e1] at c0
  have w1 : wrap64 (n : Int) = (n : Int) := by unfold wrap64; omega
  have w2 : wrap64 ((n : Int) + 1 - 1) = (n : Int) := by unfold wrap64; omega
  have i0 : (0 : Int) ≤ (n : Int) := by omega
  have i1 : (n : Int) < (n : Int) + 1 := by omega
  have i2 : (n : Int) ≤ (c : Int) := by omega
  have i3 : n ≤ c := by omega
  rw [e1]
  clear h hn hb hc hcap hl e1
  go_enter Try.func122, Try.ntmps122
  go_wp2_with fail
  go_ret
  exact ⟨rfl, _, HP.out⟩
set_option maxRecDepth 100000 in
set_option maxHeartbeats 1600000 in
theorem up_any (w : World) (fb b c n : Nat) (F : List Nat) (h : Hp fb (.slice (some ⟨b, 0, none⟩) n c) F w) (hl : F.length = n) (hn : n ≤ 1000000) (j : Nat) (hj : j < n) : Calls Try.prog 97 #[.iface 110 (.pointer (some ⟨fb, 0, none⟩)), .int .i64 (j : Int)] w fun e w' => e = .returned (.tuple #[]) ∧ ∃ F', F'.Perm F ∧ Hp fb (.slice (some ⟨b, 0, none⟩) n c) F' w' ∧ Ch fb (.slice (some ⟨b, 0, none⟩) n c) (.slice (some ⟨b, 0, none⟩) n c) w w' := by
  have HL : Hid (F.length = n ∧ n ≤ 1000000) := ⟨hl, hn⟩
  have H0 : Hid (j < n ∧ ∃ F', F'.Perm F ∧ Hp fb (.slice (some ⟨b, 0, none⟩) n c) F' w ∧ Ch fb (.slice (some ⟨b, 0, none⟩) n c) (.slice (some ⟨b, 0, none⟩) n c) w w) := ⟨hj, F, .refl _, h, .refl _ _ _⟩
  clear h hl hn hj
  go_enter Try.func97, Try.ntmps97
  go_wp2_with fail
  go_loopw [1] (fun jv wr => ∃ (j : Nat), jv = .int .i64 (j : Int) ∧ Hid (j < n ∧ ∃ F', F'.Perm F ∧ Hp fb (.slice (some ⟨b, 0, none⟩) n c) F' wr ∧ Ch fb (.slice (some ⟨b, 0, none⟩) n c) (.slice (some ⟨b, 0, none⟩) n c) w wr)) (fun jv _ => (intOf jv).toNat)
  case atStart => exact ⟨j, rfl, H0.out⟩
  case round =>
    obtain ⟨k, rfl, HI⟩ := hrel
    obtain ⟨hk, F', hp, hh, hc⟩ := HI.out
    have hl' : F'.length = n := by rw [hp.length_eq]; exact HL.out.1
    by_cases h0 : k = 0
    · subst h0
      have HF : Hid (∃ F', F'.Perm F ∧ Hp fb (.slice (some ⟨b, 0, none⟩) n c) F' wr ∧ Ch fb (.slice (some ⟨b, 0, none⟩) n c) (.slice (some ⟨b, 0, none⟩) n c) w wr) := ⟨F', hp, hh, hc⟩
      clear hk hp hh hc hl' HI
      go_wp2_with fail
      go_end0
      exact ⟨rfl, HF.out⟩
    · obtain ⟨m, rfl⟩ : ∃ m, k = m + 1 := ⟨k - 1, by omega⟩
      obtain ⟨i, hi⟩ : ∃ i, i = m / 2 := ⟨_, rfl⟩
      have q1 : wrap64 ((wrap64 (m : Int)).tdiv 2) = (i : Int) := by
        have : wrap64 (m : Int) = (m : Int) := by unfold wrap64; have := HL.out.2; omega
        rw [this, hi, Int.tdiv_eq_ediv_of_nonneg (by omega)]
        unfold wrap64
        have := HL.out.2
        omega
      have q2 : ((i : Int) == (m : Int) + 1) = false := by simp; omega
      have mt := mt_of rowLess ⟨fb, 0, none⟩ wr _ hh.cell.1
      have ow : wr.ownsRow 0 3 1 (.slice (some ⟨b, 0, none⟩) F'.length c) F'.length (ik F').toList := by have := hh.own; rw [hl'] at this ⊢; exact this
      have CL := less_any wr b c F' ow (m + 1) i (by omega) (by omega)
      rw [hl'] at CL
      have ec : ((m + 1 : Nat) : Int) = (m : Int) + 1 := by omega
      rw [ec] at CL
      have HCL : Hid (Calls Try.prog 121 #[.slice (some ⟨b, 0, none⟩) n c, .int .i64 ((m : Int) + 1), .int .i64 (i : Int)] wr fun e w' => (∃ q, e = .returned (.bool q)) ∧ ∃ k, w' = wr.drewN k) := CL
      have HX : Hid (m + 1 < n ∧ i = m / 2 ∧ F'.Perm F ∧ F'.length = n ∧ Hp fb (.slice (some ⟨b, 0, none⟩) n c) F' wr ∧ Ch fb (.slice (some ⟨b, 0, none⟩) n c) (.slice (some ⟨b, 0, none⟩) n c) w wr) := ⟨hk, hi, hp, hl', hh, hc⟩
      clear hk hp hh hc hl' HI hi ow CL ec h0
      go_wp2_with fail
      with_reducible refine Calls.mono HCL.out ?_
      rintro en W2 ⟨⟨q, rfl⟩, kk, rfl⟩
      have hh2 := HX.out.2.2.2.2.1.drew kk
      have mt2 := mt_of rowSwap ⟨fb, 0, none⟩ (wr.drewN kk) _ hh2.cell.1
      have CS := swap_any (wr.drewN kk) fb b c F' (by rw [HX.out.2.2.2.1]; exact hh2) i (m + 1) (by have := HX.out; omega) (by have := HX.out; omega)
      rw [HX.out.2.2.2.1, show ((m + 1 : Nat) : Int) = (m : Int) + 1 by omega] at CS
      have HCS : Hid (Calls Try.prog 124 #[.slice (some ⟨b, 0, none⟩) n c, .int .i64 (i : Int), .int .i64 ((m : Int) + 1)] (wr.drewN kk) fun e w' => e = .returned (.tuple #[]) ∧ ∃ F'', F''.Perm F' ∧ Hp fb (.slice (some ⟨b, 0, none⟩) n c) F'' w' ∧ Ch fb (.slice (some ⟨b, 0, none⟩) n c) (.slice (some ⟨b, 0, none⟩) n c) (wr.drewN kk) w') := CS
      clear CS hh2
      cases q
      · go_wp2_with fail
        go_end0
        exact ⟨rfl, F', HX.out.2.2.1, HX.out.2.2.2.2.1.drew kk, HX.out.2.2.2.2.2.drew kk⟩
      · go_wp2_with fail
        with_reducible refine Calls.mono HCS.out ?_
        rintro en W3 ⟨rfl, F3, p3, h3, c3⟩
        have HY : Hid (∃ F', F'.Perm F ∧ Hp fb (.slice (some ⟨b, 0, none⟩) n c) F' W3 ∧ Ch fb (.slice (some ⟨b, 0, none⟩) n c) (.slice (some ⟨b, 0, none⟩) n c) w W3) := ⟨F3, p3.trans HX.out.2.2.1, h3, (HX.out.2.2.2.2.2.drew kk).trans c3⟩
        clear p3 h3 c3
        go_wp2_with fail
        go_roundw
        · exact ⟨i, rfl, by have := HX.out; omega, HY.out⟩
        · have := HX.out
          simp [intOf]
          omega
theorem lessH {w wr : World} {fb b c n : Nat} {F : List Nat} (hh : Hp fb (.slice (some ⟨b, 0, none⟩) n c) F wr) (hl : F.length = n) (hc : Ch fb (.slice (some ⟨b, 0, none⟩) n c) (.slice (some ⟨b, 0, none⟩) n c) w wr) (i j : Nat) (hi : i < n) (hj : j < n) : Calls Try.prog 121 #[.slice (some ⟨b, 0, none⟩) n c, .int .i64 (i : Int), .int .i64 (j : Int)] wr fun e w' => (∃ q, e = .returned (.bool q)) ∧ Hp fb (.slice (some ⟨b, 0, none⟩) n c) F w' ∧ Ch fb (.slice (some ⟨b, 0, none⟩) n c) (.slice (some ⟨b, 0, none⟩) n c) w w' := by
  subst hl
  refine (less_any wr b c F hh.own i j hi hj).mono ?_
  rintro e w' ⟨h1, k, rfl⟩
  exact ⟨h1, hh.drew k, hc.drew k⟩
theorem swapH {w wr : World} {fb b c n : Nat} {G F : List Nat} (hp : F.Perm G) (hh : Hp fb (.slice (some ⟨b, 0, none⟩) n c) F wr) (hl : F.length = n) (hc : Ch fb (.slice (some ⟨b, 0, none⟩) n c) (.slice (some ⟨b, 0, none⟩) n c) w wr) (i j : Nat) (hi : i < n) (hj : j < n) : Calls Try.prog 124 #[.slice (some ⟨b, 0, none⟩) n c, .int .i64 (i : Int), .int .i64 (j : Int)] wr fun e w' => e = .returned (.tuple #[]) ∧ ∃ F', F'.Perm G ∧ Hp fb (.slice (some ⟨b, 0, none⟩) n c) F' w' ∧ Ch fb (.slice (some ⟨b, 0, none⟩) n c) (.slice (some ⟨b, 0, none⟩) n c) w w' := by
  subst hl
  exact (swap_any wr fb b c F hh i j hi hj).mono fun e w' ⟨u1, F3, p3, h3, c3⟩ => ⟨u1, F3, p3.trans hp, h3, hc.trans c3⟩
set_option maxRecDepth 100000 in
set_option maxHeartbeats 3200000 in
theorem down_any (w : World) (fb b c n : Nat) (F : List Nat) (h : Hp fb (.slice (some ⟨b, 0, none⟩) n c) F w) (hl : F.length = n) (hn : n ≤ 1000000) (N : Nat) (hN : N ≤ n) : Calls Try.prog 98 #[.iface 110 (.pointer (some ⟨fb, 0, none⟩)), .int .i64 0, .int .i64 (N : Int)] w fun e w' => (∃ q, e = .returned (.bool q)) ∧ ∃ F', F'.Perm F ∧ Hp fb (.slice (some ⟨b, 0, none⟩) n c) F' w' ∧ Ch fb (.slice (some ⟨b, 0, none⟩) n c) (.slice (some ⟨b, 0, none⟩) n c) w w' := by
  have HL : Hid (F.length = n ∧ n ≤ 1000000 ∧ N ≤ n) := ⟨hl, hn, hN⟩
  have H0 : Hid (0 ≤ N ∧ ∃ F', F'.Perm F ∧ Hp fb (.slice (some ⟨b, 0, none⟩) n c) F' w ∧ Ch fb (.slice (some ⟨b, 0, none⟩) n c) (.slice (some ⟨b, 0, none⟩) n c) w w) := ⟨Nat.zero_le _, F, .refl _, h, .refl _ _ _⟩
  clear h hl hn hN
  go_enter Try.func98, Try.ntmps98
  go_wp2_with fail
  go_loopw [7] (fun iv wr => ∃ (i : Nat), iv = .int .i64 (i : Int) ∧ Hid (i ≤ N ∧ ∃ F', F'.Perm F ∧ Hp fb (.slice (some ⟨b, 0, none⟩) n c) F' wr ∧ Ch fb (.slice (some ⟨b, 0, none⟩) n c) (.slice (some ⟨b, 0, none⟩) n c) w wr)) (fun iv _ => N + 1 - (intOf iv).toNat)
  case atStart => exact ⟨0, rfl, H0.out⟩
  case round =>
    obtain ⟨i, rfl, HI⟩ := hrel
    obtain ⟨hk, F', hp, hh, hc⟩ := HI.out
    have hl' : F'.length = n := by rw [hp.length_eq]; exact HL.out.1
    have lim := HL.out
    obtain ⟨j, hj⟩ : ∃ j, j = 2 * i + 1 := ⟨_, rfl⟩
    have q1 : wrap64 (wrap64 (2 * (i : Int)) + 1) = (j : Int) := by unfold wrap64; omega
    have HF : Hid (∃ F', F'.Perm F ∧ Hp fb (.slice (some ⟨b, 0, none⟩) n c) F' wr ∧ Ch fb (.slice (some ⟨b, 0, none⟩) n c) (.slice (some ⟨b, 0, none⟩) n c) w wr) := ⟨F', hp, hh, hc⟩
    by_cases h1 : N ≤ j
    · have h1' : (N : Int) ≤ (j : Int) := by omega
      clear hk hp hh hc hl' HI lim hj
      go_wp2_with fail
      go_ret
      exact ⟨⟨_, rfl⟩, HF.out⟩
    · have h1' : ¬ ((N : Int) ≤ (j : Int)) := by omega
      have h1'' : (j : Int) < (N : Int) := by omega
      have j0 : ¬ ((j : Int) < 0) := by omega
      have q2 : wrap64 ((j : Int) + 1) = (j : Int) + 1 := by unfold wrap64; omega
      have mt := mt_of rowLess ⟨fb, 0, none⟩ wr _ hh.cell.1
      have HX : Hid (F'.Perm F ∧ F'.length = n ∧ i < j ∧ j < N ∧ n ≤ 1000000 ∧ N ≤ n) := ⟨hp, hl', by omega, by omega, lim.2.1, lim.2.2⟩
      have HT : Hid (∀ (Y : World) (jj : Nat), i < jj → jj < N → Hp fb (.slice (some ⟨b, 0, none⟩) n c) F' Y → Ch fb (.slice (some ⟨b, 0, none⟩) n c) (.slice (some ⟨b, 0, none⟩) n c) w Y → (Go.method 261 110 (.pointer (some ⟨fb, 0, none⟩)) "Less").run Try.prog Y = .ok (121, .slice (some ⟨b, 0, none⟩) n c) Y ∧ (Go.method 261 110 (.pointer (some ⟨fb, 0, none⟩)) "Swap").run Try.prog Y = .ok (124, .slice (some ⟨b, 0, none⟩) n c) Y ∧ Hid (Calls Try.prog 121 #[.slice (some ⟨b, 0, none⟩) n c, .int .i64 (jj : Int), .int .i64 (i : Int)] Y fun e w' => (∃ q, e = .returned (.bool q)) ∧ Hp fb (.slice (some ⟨b, 0, none⟩) n c) F' w' ∧ Ch fb (.slice (some ⟨b, 0, none⟩) n c) (.slice (some ⟨b, 0, none⟩) n c) w w') ∧ Hid (Calls Try.prog 124 #[.slice (some ⟨b, 0, none⟩) n c, .int .i64 (i : Int), .int .i64 (jj : Int)] Y fun e w' => e = .returned (.tuple #[]) ∧ ∃ F', F'.Perm F ∧ Hp fb (.slice (some ⟨b, 0, none⟩) n c) F' w' ∧ Ch fb (.slice (some ⟨b, 0, none⟩) n c) (.slice (some ⟨b, 0, none⟩) n c) w w')) := fun Y jj h2 h3 hY cY => ⟨mt_of rowLess ⟨fb, 0, none⟩ Y _ hY.cell.1, mt_of rowSwap ⟨fb, 0, none⟩ Y _ hY.cell.1, lessH hY hl' cY jj i (by omega) (by omega), swapH hp hY hl' cY i jj (by omega) (by omega)⟩
      have HST : Hid (Hp fb (.slice (some ⟨b, 0, none⟩) n c) F' wr ∧ Ch fb (.slice (some ⟨b, 0, none⟩) n c) (.slice (some ⟨b, 0, none⟩) n c) w wr) := ⟨hh, hc⟩
      by_cases h2 : j + 1 < N
      · have h2' : (j : Int) + 1 < (N : Int) := by omega
        have CL := lessH hh hl' hc (j + 1) j (by omega) (by omega)
        rw [show ((j + 1 : Nat) : Int) = (j : Int) + 1 by omega] at CL
        have HCL : Hid (Calls Try.prog 121 #[.slice (some ⟨b, 0, none⟩) n c, .int .i64 ((j : Int) + 1), .int .i64 (j : Int)] wr fun e w' => (∃ q, e = .returned (.bool q)) ∧ Hp fb (.slice (some ⟨b, 0, none⟩) n c) F' w' ∧ Ch fb (.slice (some ⟨b, 0, none⟩) n c) (.slice (some ⟨b, 0, none⟩) n c) w w') := CL
        have HH2 : Hid (j + 1 < N) := h2
        clear hk hp hh hc hl' HI lim hj h1 h2 CL HF
        go_wp2_with fail
        with_reducible refine Calls.mono HCL.out ?_
        rintro en Y ⟨⟨q, rfl⟩, hY, cY⟩
        cases q
        · obtain ⟨m1, m2, L1, S1⟩ := HT.out Y j HX.out.2.2.1 HX.out.2.2.2.1 hY cY
          clear hY cY
          go_wp2_with fail
          with_reducible refine Calls.mono L1.out ?_
          rintro en Y2 ⟨⟨q, rfl⟩, hY2, cY2⟩
          obtain ⟨m3, m4, L2, S2⟩ := HT.out Y2 (j) (by have := HX.out; omega) (HX.out.2.2.2.1) hY2 cY2
          have HE : Hid (∃ F', F'.Perm F ∧ Hp fb (.slice (some ⟨b, 0, none⟩) n c) F' Y2 ∧ Ch fb (.slice (some ⟨b, 0, none⟩) n c) (.slice (some ⟨b, 0, none⟩) n c) w Y2) := ⟨F', HX.out.1, hY2, cY2⟩
          clear hY2 cY2
          cases q
          · go_wp2_with fail
            go_ret
            exact ⟨⟨_, rfl⟩, HE.out⟩
          · go_wp2_with fail
            with_reducible refine Calls.mono S2.out ?_
            rintro en Y3 ⟨rfl, h3⟩
            have HY : Hid (∃ F', F'.Perm F ∧ Hp fb (.slice (some ⟨b, 0, none⟩) n c) F' Y3 ∧ Ch fb (.slice (some ⟨b, 0, none⟩) n c) (.slice (some ⟨b, 0, none⟩) n c) w Y3) := h3
            clear h3
            go_wp2_with fail
            go_roundw
            · exact ⟨j, by first | rfl | go_num, by have := HX.out; omega, HY.out⟩
            · have := HX.out
              simp [intOf]
              omega
        · obtain ⟨m1, m2, L1, S1⟩ := HT.out Y (j + 1) (by have := HX.out; omega) HH2.out hY cY
          rw [show ((j + 1 : Nat) : Int) = (j : Int) + 1 by omega] at L1 S1
          clear hY cY
          go_wp2_with fail
          with_reducible refine Calls.mono L1.out ?_
          rintro en Y2 ⟨⟨q, rfl⟩, hY2, cY2⟩
          obtain ⟨m3, m4, L2, S2⟩ := HT.out Y2 (j + 1) (by have := HX.out; omega) (HH2.out) hY2 cY2
          rw [show ((j + 1 : Nat) : Int) = (j : Int) + 1 by omega] at L2 S2
          have HE : Hid (∃ F', F'.Perm F ∧ Hp fb (.slice (some ⟨b, 0, none⟩) n c) F' Y2 ∧ Ch fb (.slice (some ⟨b, 0, none⟩) n c) (.slice (some ⟨b, 0, none⟩) n c) w Y2) := ⟨F', HX.out.1, hY2, cY2⟩
          clear hY2 cY2
          cases q
          · go_wp2_with fail
            go_ret
            exact ⟨⟨_, rfl⟩, HE.out⟩
          · go_wp2_with fail
            with_reducible refine Calls.mono S2.out ?_
            rintro en Y3 ⟨rfl, h3⟩
            have HY : Hid (∃ F', F'.Perm F ∧ Hp fb (.slice (some ⟨b, 0, none⟩) n c) F' Y3 ∧ Ch fb (.slice (some ⟨b, 0, none⟩) n c) (.slice (some ⟨b, 0, none⟩) n c) w Y3) := h3
            clear h3
            go_wp2_with fail
            go_roundw
            · exact ⟨j + 1, by first | rfl | go_num, by have := HX.out; omega, HY.out⟩
            · have := HX.out
              simp [intOf]
              omega
      · have h2' : ¬ ((j : Int) + 1 < (N : Int)) := by omega
        obtain ⟨m1, m2, L1, S1⟩ := HT.out wr j HX.out.2.2.1 HX.out.2.2.2.1 hh hc
        clear hk hp hh hc hl' HI lim hj h1 h2 HF
        go_wp2_with fail
        with_reducible refine Calls.mono L1.out ?_
        rintro en Y2 ⟨⟨q, rfl⟩, hY2, cY2⟩
        obtain ⟨m3, m4, L2, S2⟩ := HT.out Y2 (j) (by have := HX.out; omega) (HX.out.2.2.2.1) hY2 cY2
        have HE : Hid (∃ F', F'.Perm F ∧ Hp fb (.slice (some ⟨b, 0, none⟩) n c) F' Y2 ∧ Ch fb (.slice (some ⟨b, 0, none⟩) n c) (.slice (some ⟨b, 0, none⟩) n c) w Y2) := ⟨F', HX.out.1, hY2, cY2⟩
        clear hY2 cY2
        cases q
        · go_wp2_with fail
          go_ret
          exact ⟨⟨_, rfl⟩, HE.out⟩
        · go_wp2_with fail
          with_reducible refine Calls.mono S2.out ?_
          rintro en Y3 ⟨rfl, h3⟩
          have HY : Hid (∃ F', F'.Perm F ∧ Hp fb (.slice (some ⟨b, 0, none⟩) n c) F' Y3 ∧ Ch fb (.slice (some ⟨b, 0, none⟩) n c) (.slice (some ⟨b, 0, none⟩) n c) w Y3) := h3
          clear h3
          go_wp2_with fail
          go_roundw
          · exact ⟨j, by first | rfl | go_num, by have := HX.out; omega, HY.out⟩
          · have := HX.out
            simp [intOf]
            omega
end Go.Proofs.Ytibhjkmbbfgnpaa
