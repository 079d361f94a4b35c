/- Several texts in one: HqC, HqD. -/
import Derived.Test.YtibhjkmbbfgnpaaJhA
import Derived.Test.YtibhjkmbbfgnpaaGlC
/- The heap with its order: up and down. -/
namespace Go.Proofs.Ytibhjkmbbfgnpaa
open Go.RowKit
theorem hqHid {p : Prop} (h : p) : Hid p := h
set_option maxRecDepth 100000 in
set_option maxHeartbeats 1600000 in
theorem up_ex (w : World) (fb b c n : Nat) (F : List Nat) (h : Hp fb (.slice (some ⟨b, 0, none⟩) n c) F w) (hl : F.length = n) (hn : n ≤ 1000000) (j : Nat) (hj : j < n) (hu : Uq F n j) : Calls Try.prog 97 #[.iface 110 (.pointer (some ⟨fb, 0, none⟩)), .int .i64 (j : Int)] w fun e w' => e = .returned (.tuple #[]) ∧ ∃ F', F'.Perm F ∧ Hq F' n ∧ Hp fb (.slice (some ⟨b, 0, none⟩) n c) F' w' ∧ Ch fb (.slice (some ⟨b, 0, none⟩) n c) (.slice (some ⟨b, 0, none⟩) n c) w w' := by
  have HL : Hid (F.length = n ∧ n ≤ 1000000) := ⟨hl, hn⟩
  have H0 : Hid (j < n ∧ ∃ F', F'.Perm F ∧ Uq F' n j ∧ Hp fb (.slice (some ⟨b, 0, none⟩) n c) F' w ∧ Ch fb (.slice (some ⟨b, 0, none⟩) n c) (.slice (some ⟨b, 0, none⟩) n c) w w) := ⟨hj, F, .refl _, hu, h, .refl _ _ _⟩
  clear h hl hn hj hu
  go_enter Try.func97, Try.ntmps97
  go_wp2_with fail
  go_loopw [1] (fun jv wr => ∃ (j : Nat), jv = .int .i64 (j : Int) ∧ Hid (j < n ∧ ∃ F', F'.Perm F ∧ Uq F' n j ∧ Hp fb (.slice (some ⟨b, 0, none⟩) n c) F' wr ∧ Ch fb (.slice (some ⟨b, 0, none⟩) n c) (.slice (some ⟨b, 0, none⟩) n c) w wr)) (fun jv _ => (intOf jv).toNat)
  case atStart => exact ⟨j, rfl, H0.out⟩
  case round =>
    obtain ⟨k, rfl, HI⟩ := hrel
    obtain ⟨hk, F', hp, hu, hh, hc⟩ := HI.out
    have hl' : F'.length = n := by rw [hp.length_eq]; exact HL.out.1
    by_cases h0 : k = 0
    · subst h0
      have HF : Hid (∃ F', F'.Perm F ∧ Hq F' n ∧ Hp fb (.slice (some ⟨b, 0, none⟩) n c) F' wr ∧ Ch fb (.slice (some ⟨b, 0, none⟩) n c) (.slice (some ⟨b, 0, none⟩) n c) w wr) := ⟨F', hp, hu.zero, hh, hc⟩
      clear hk hp hh hc hl' HI hu
      go_wp2_with fail
      go_end0
      exact ⟨rfl, HF.out⟩
    · obtain ⟨m, rfl⟩ : ∃ m, k = m + 1 := ⟨k - 1, by omega⟩
      obtain ⟨i, hi⟩ : ∃ i, i = m / 2 := ⟨_, rfl⟩
      have q1 : wrap64 ((wrap64 (m : Int)).tdiv 2) = (i : Int) := by
        have : wrap64 (m : Int) = (m : Int) := by unfold wrap64; have := HL.out.2; omega
        rw [this, hi, Int.tdiv_eq_ediv_of_nonneg (by omega)]
        unfold wrap64
        have := HL.out.2
        omega
      have q2 : ((i : Int) == (m : Int) + 1) = false := by simp; omega
      have mt := mt_of rowLess ⟨fb, 0, none⟩ wr _ hh.cell.1
      have ow : wr.ownsRow 0 3 1 (.slice (some ⟨b, 0, none⟩) F'.length c) F'.length (ik F').toList := by have := hh.own; rw [hl'] at this ⊢; exact this
      have CL := less_ex wr b c F' ow (m + 1) i (by omega) (by omega)
      rw [hl'] at CL
      obtain ⟨q, hq⟩ : ∃ q, decide (F'.getD (m + 1) 0 < F'.getD i 0) = q := ⟨_, rfl⟩
      rw [hq] at CL
      have ec : ((m + 1 : Nat) : Int) = (m : Int) + 1 := by omega
      rw [ec] at CL
      have HCL : Hid (Calls Try.prog 121 #[.slice (some ⟨b, 0, none⟩) n c, .int .i64 ((m : Int) + 1), .int .i64 (i : Int)] wr fun e w' => e = .returned (.bool q) ∧ ∃ k, w' = wr.drewN k) := CL
      have HX : Hid (m + 1 < n ∧ i = m / 2 ∧ F'.Perm F ∧ F'.length = n ∧ Hp fb (.slice (some ⟨b, 0, none⟩) n c) F' wr ∧ Ch fb (.slice (some ⟨b, 0, none⟩) n c) (.slice (some ⟨b, 0, none⟩) n c) w wr) := ⟨hk, hi, hp, hl', hh, hc⟩
      have HU : Hid (Uq F' n (m + 1) ∧ decide (F'.getD (m + 1) 0 < F'.getD i 0) = q) := ⟨hu, hq⟩
      clear hk hp hh hc hl' HI hi ow CL ec h0 hu hq
      go_wp2_with fail
      with_reducible refine Calls.mono HCL.out ?_
      rintro en W2 ⟨rfl, kk, rfl⟩
      have hh2 := HX.out.2.2.2.2.1.drew kk
      have mt2 := mt_of rowSwap ⟨fb, 0, none⟩ (wr.drewN kk) _ hh2.cell.1
      have CS := swap_ex (wr.drewN kk) fb b c F' (by rw [HX.out.2.2.2.1]; exact hh2) i (m + 1) (by have := HX.out; omega) (by have := HX.out; omega)
      rw [HX.out.2.2.2.1, show ((m + 1 : Nat) : Int) = (m : Int) + 1 by omega] at CS
      have HCS : Hid (Calls Try.prog 124 #[.slice (some ⟨b, 0, none⟩) n c, .int .i64 (i : Int), .int .i64 ((m : Int) + 1)] (wr.drewN kk) fun e w' => e = .returned (.tuple #[]) ∧ Hp fb (.slice (some ⟨b, 0, none⟩) n c) (swp F' i (m + 1)) w' ∧ Ch fb (.slice (some ⟨b, 0, none⟩) n c) (.slice (some ⟨b, 0, none⟩) n c) (wr.drewN kk) w') := CS
      clear CS hh2
      cases q
      · go_wp2_with fail
        go_end0
        refine ⟨rfl, F', HX.out.2.2.1, HU.out.1.end ?_, HX.out.2.2.2.2.1.drew kk, HX.out.2.2.2.2.2.drew kk⟩
        have := of_decide_eq_false HU.out.2
        have e : (m + 1 - 1) / 2 = i := by have := HX.out; omega
        rw [e]
        omega
      · go_wp2_with fail
        with_reducible refine Calls.mono HCS.out ?_
        rintro en W3 ⟨rfl, h3, c3⟩
        have HY : Hid (∃ F', F'.Perm F ∧ Uq F' n i ∧ Hp fb (.slice (some ⟨b, 0, none⟩) n c) F' W3 ∧ Ch fb (.slice (some ⟨b, 0, none⟩) n c) (.slice (some ⟨b, 0, none⟩) n c) w W3) := by
          have e : (m + 1 - 1) / 2 = i := by have := HX.out; omega
          have u := HU.out.1.step HX.out.2.2.2.1.symm (by omega) (by have := HX.out; omega) (by rw [e]; exact of_decide_eq_true HU.out.2)
          rw [e] at u
          exact ⟨_, (swp_perm (by have := HX.out; omega) (by have := HX.out; omega)).trans HX.out.2.2.1, u, h3, (HX.out.2.2.2.2.2.drew kk).trans c3⟩
        clear h3 c3
        go_wp2_with fail
        go_roundw
        · exact ⟨i, rfl, by have := HX.out; omega, HY.out⟩
        · have := HX.out
          simp [intOf]
          omega
theorem lessHx {w wr : World} {fb b c n : Nat} {F : List Nat} (hh : Hp fb (.slice (some ⟨b, 0, none⟩) n c) F wr) (hl : F.length = n) (hc : Ch fb (.slice (some ⟨b, 0, none⟩) n c) (.slice (some ⟨b, 0, none⟩) n c) w wr) (i j : Nat) (hi : i < n) (hj : j < n) : Calls Try.prog 121 #[.slice (some ⟨b, 0, none⟩) n c, .int .i64 (i : Int), .int .i64 (j : Int)] wr fun e w' => e = .returned (.bool (decide (F.getD i 0 < F.getD j 0))) ∧ Hp fb (.slice (some ⟨b, 0, none⟩) n c) F w' ∧ Ch fb (.slice (some ⟨b, 0, none⟩) n c) (.slice (some ⟨b, 0, none⟩) n c) w w' := by
  subst hl
  refine (less_ex wr b c F hh.own i j hi hj).mono ?_
  rintro e w' ⟨h1, k, rfl⟩
  exact ⟨h1, hh.drew k, hc.drew k⟩
theorem swapHx {w wr : World} {fb b c n : Nat} {F : List Nat} (hh : Hp fb (.slice (some ⟨b, 0, none⟩) n c) F wr) (hl : F.length = n) (hc : Ch fb (.slice (some ⟨b, 0, none⟩) n c) (.slice (some ⟨b, 0, none⟩) n c) w wr) (i j : Nat) (hi : i < n) (hj : j < n) : Calls Try.prog 124 #[.slice (some ⟨b, 0, none⟩) n c, .int .i64 (i : Int), .int .i64 (j : Int)] wr fun e w' => e = .returned (.tuple #[]) ∧ Hp fb (.slice (some ⟨b, 0, none⟩) n c) (swp F i j) w' ∧ Ch fb (.slice (some ⟨b, 0, none⟩) n c) (.slice (some ⟨b, 0, none⟩) n c) w w' := by
  subst hl
  exact (swap_ex wr fb b c F hh i j hi hj).mono fun e w' ⟨u1, h3, c3⟩ => ⟨u1, h3, hc.trans c3⟩
/-- Where down stands: the list, and what has come of it. -/
structure Dn (fb b c n N : Nat) (F : List Nat) (w : World) (i : Nat) (F' : List Nat) (X : World) : Prop where
  pm : F'.Perm F
  dq : Dq F' N i
  far : ∀ k, N ≤ k → F'.getD k 0 = F.getD k 0
  hp : Hp fb (.slice (some ⟨b, 0, none⟩) n c) F' X
  ch : Ch fb (.slice (some ⟨b, 0, none⟩) n c) (.slice (some ⟨b, 0, none⟩) n c) w X
/-- What it has come to. -/
def DnE (fb b c n N : Nat) (F : List Nat) (w X : World) : Prop := ∃ F', F'.Perm F ∧ Hq F' N ∧ (∀ k, N ≤ k → F'.getD k 0 = F.getD k 0) ∧ Hp fb (.slice (some ⟨b, 0, none⟩) n c) F' X ∧ Ch fb (.slice (some ⟨b, 0, none⟩) n c) (.slice (some ⟨b, 0, none⟩) n c) w X
theorem Dn.step {fb b c n N i cc : Nat} {F F' : List Nat} {w X Y : World} (h : Dn fb b c n N F w i F' X) (hl : F'.length = n) (hN : N ≤ n) (c0 : 0 < cc) (hcn : cc < N) (hci : (cc - 1) / 2 = i) (hm : ∀ j, 0 < j → j < N → (j - 1) / 2 = i → F'.getD cc 0 ≤ F'.getD j 0) (hc : F'.getD cc 0 < F'.getD i 0) (h3 : Hp fb (.slice (some ⟨b, 0, none⟩) n c) (swp F' i cc) Y) (c3 : Ch fb (.slice (some ⟨b, 0, none⟩) n c) (.slice (some ⟨b, 0, none⟩) n c) w Y) : Dn fb b c n N F w cc (swp F' i cc) Y :=
  ⟨(swp_perm (by omega) (by omega)).trans h.pm, h.dq.step (by omega) c0 hcn hci hm hc, fun k hk => (swp_far (by omega) (by omega) (by omega) hcn hk).trans (h.far k hk), h3, c3⟩
theorem Dn.stop {fb b c n N i cc : Nat} {F F' : List Nat} {w X Y : World} (h : Dn fb b c n N F w i F' X) (hm : ∀ j, 0 < j → j < N → (j - 1) / 2 = i → F'.getD cc 0 ≤ F'.getD j 0) (hc : ¬ F'.getD cc 0 < F'.getD i 0) (h3 : Hp fb (.slice (some ⟨b, 0, none⟩) n c) F' Y) (c3 : Ch fb (.slice (some ⟨b, 0, none⟩) n c) (.slice (some ⟨b, 0, none⟩) n c) w Y) : DnE fb b c n N F w Y :=
  ⟨F', h.pm, h.dq.end hm (by omega), h.far, h3, c3⟩
theorem kid_one {F : List Nat} {i j N : Nat} (hj : j = 2 * i + 1) (h : ¬ j + 1 < N) : ∀ k, 0 < k → k < N → (k - 1) / 2 = i → F.getD j 0 ≤ F.getD k 0 := fun k h0 h1 h2 => by
  have e : k = j := by omega
  rw [e]; exact Nat.le_refl _
theorem kid_l {F : List Nat} {i j N : Nat} (hj : j = 2 * i + 1) (h : ¬ F.getD (j + 1) 0 < F.getD j 0) : ∀ k, 0 < k → k < N → (k - 1) / 2 = i → F.getD j 0 ≤ F.getD k 0 := fun k h0 h1 h2 => by
  have e : k = j ∨ k = j + 1 := by omega
  rcases e with e | e <;> rw [e] <;> omega
theorem kid_r {F : List Nat} {i j N : Nat} (hj : j = 2 * i + 1) (h : F.getD (j + 1) 0 < F.getD j 0) : ∀ k, 0 < k → k < N → (k - 1) / 2 = i → F.getD (j + 1) 0 ≤ F.getD k 0 := fun k h0 h1 h2 => by
  have e : k = j ∨ k = j + 1 := by omega
  rcases e with e | e <;> rw [e] <;> omega
set_option maxRecDepth 100000 in
set_option maxHeartbeats 3200000 in
theorem down_ex (w : World) (fb b c n : Nat) (F : List Nat) (h : Hp fb (.slice (some ⟨b, 0, none⟩) n c) F w) (hl : F.length = n) (hn : n ≤ 1000000) (N : Nat) (hN : N ≤ n) (hd : Dq F N 0) : Calls Try.prog 98 #[.iface 110 (.pointer (some ⟨fb, 0, none⟩)), .int .i64 0, .int .i64 (N : Int)] w fun e w' => (∃ q, e = .returned (.bool q)) ∧ DnE fb b c n N F w w' := by
  have HL : Hid (F.length = n ∧ n ≤ 1000000 ∧ N ≤ n) := ⟨hl, hn, hN⟩
  have H0 : Hid (0 ≤ N ∧ ∃ F', Dn fb b c n N F w 0 F' w) := ⟨Nat.zero_le _, F, .refl _, hd, fun _ _ => rfl, h, .refl _ _ _⟩
  clear h hl hn hN hd
  go_enter Try.func98, Try.ntmps98
  go_wp2_with fail
  go_loopw [7] (fun iv wr => ∃ (i : Nat), iv = .int .i64 (i : Int) ∧ Hid (i ≤ N ∧ ∃ F', Dn fb b c n N F w i F' wr)) (fun iv _ => N + 1 - (intOf iv).toNat)
  case atStart => exact ⟨0, rfl, H0.out⟩
  case round =>
    obtain ⟨i, rfl, HI⟩ := hrel
    obtain ⟨hk, F', dn⟩ := HI.out
    have hl' : F'.length = n := by rw [dn.pm.length_eq]; exact HL.out.1
    have lim := HL.out
    obtain ⟨j, hj⟩ : ∃ j, j = 2 * i + 1 := ⟨_, rfl⟩
    have q1 : wrap64 (wrap64 (2 * (i : Int)) + 1) = (j : Int) := by unfold wrap64; omega
    by_cases h1 : N ≤ j
    · have h1' : (N : Int) ≤ (j : Int) := by omega
      have HF : Hid (DnE fb b c n N F w wr) := ⟨F', dn.pm, dn.dq.none (by omega), dn.far, dn.hp, dn.ch⟩
      clear hk dn hl' HI lim hj
      go_wp2_with fail
      go_ret
      exact ⟨⟨_, rfl⟩, HF.out⟩
    · have h1' : ¬ ((N : Int) ≤ (j : Int)) := by omega
      have h1'' : (j : Int) < (N : Int) := by omega
      have j0 : ¬ ((j : Int) < 0) := by omega
      have q2 : wrap64 ((j : Int) + 1) = (j : Int) + 1 := by unfold wrap64; omega
      have mt := mt_of rowLess ⟨fb, 0, none⟩ wr _ dn.hp.cell.1
      have HX : Hid (F'.length = n ∧ i < j ∧ j < N ∧ n ≤ 1000000 ∧ N ≤ n ∧ j = 2 * i + 1) := ⟨hl', by omega, by omega, lim.2.1, lim.2.2, hj⟩
      have HDn : Hid (Dn fb b c n N F w i F' wr) := dn
      have HT : Hid (∀ (Y : World) (jj : Nat), i < jj → jj < N → Hp fb (.slice (some ⟨b, 0, none⟩) n c) F' Y → Ch fb (.slice (some ⟨b, 0, none⟩) n c) (.slice (some ⟨b, 0, none⟩) n c) w Y → (Go.method 261 110 (.pointer (some ⟨fb, 0, none⟩)) "Less").run Try.prog Y = .ok (121, .slice (some ⟨b, 0, none⟩) n c) Y ∧ (Go.method 261 110 (.pointer (some ⟨fb, 0, none⟩)) "Swap").run Try.prog Y = .ok (124, .slice (some ⟨b, 0, none⟩) n c) Y ∧ Hid (Calls Try.prog 121 #[.slice (some ⟨b, 0, none⟩) n c, .int .i64 (jj : Int), .int .i64 (i : Int)] Y fun e w' => e = .returned (.bool (decide (F'.getD jj 0 < F'.getD i 0))) ∧ Hp fb (.slice (some ⟨b, 0, none⟩) n c) F' w' ∧ Ch fb (.slice (some ⟨b, 0, none⟩) n c) (.slice (some ⟨b, 0, none⟩) n c) w w') ∧ Hid (Calls Try.prog 124 #[.slice (some ⟨b, 0, none⟩) n c, .int .i64 (i : Int), .int .i64 (jj : Int)] Y fun e w' => e = .returned (.tuple #[]) ∧ Hp fb (.slice (some ⟨b, 0, none⟩) n c) (swp F' i jj) w' ∧ Ch fb (.slice (some ⟨b, 0, none⟩) n c) (.slice (some ⟨b, 0, none⟩) n c) w w')) := fun Y jj h2 h3 hY cY => ⟨mt_of rowLess ⟨fb, 0, none⟩ Y _ hY.cell.1, mt_of rowSwap ⟨fb, 0, none⟩ Y _ hY.cell.1, lessHx hY hl' cY jj i (by omega) (by omega), swapHx hY hl' cY i jj (by omega) (by omega)⟩
      by_cases h2 : j + 1 < N
      · have h2' : (j : Int) + 1 < (N : Int) := by omega
        have CL := lessHx dn.hp hl' dn.ch (j + 1) j (by omega) (by omega)
        obtain ⟨q, hq⟩ : ∃ q, decide (F'.getD (j + 1) 0 < F'.getD j 0) = q := ⟨_, rfl⟩
        rw [show ((j + 1 : Nat) : Int) = (j : Int) + 1 by omega, hq] at CL
        have HCL : Hid (Calls Try.prog 121 #[.slice (some ⟨b, 0, none⟩) n c, .int .i64 ((j : Int) + 1), .int .i64 (j : Int)] wr fun e w' => e = .returned (.bool q) ∧ Hp fb (.slice (some ⟨b, 0, none⟩) n c) F' w' ∧ Ch fb (.slice (some ⟨b, 0, none⟩) n c) (.slice (some ⟨b, 0, none⟩) n c) w w') := CL
        have HH2 : Hid (j + 1 < N) := h2
        have Hq1 : Hid (decide (F'.getD (j + 1) 0 < F'.getD j 0) = q) := hq
        clear hk dn hl' HI lim hj h1 h2 CL hq
        go_wp2_with fail
        with_reducible refine Calls.mono HCL.out ?_
        rintro en Y ⟨rfl, hY, cY⟩
        cases q
        · obtain ⟨m1, m2, L1, S1⟩ := HT.out Y j HX.out.2.1 HX.out.2.2.1 hY cY
          clear hY cY
          have km := kid_l (N := N) HX.out.2.2.2.2.2 (of_decide_eq_false Hq1.out)
          obtain ⟨q, hq⟩ : ∃ q, decide (F'.getD j 0 < F'.getD i 0) = q := ⟨_, rfl⟩
          rw [hq] at L1
          have HK := hqHid (And.intro km hq)
          clear km hq
          go_wp2_with fail
          with_reducible refine Calls.mono L1.out ?_
          rintro en Y2 ⟨rfl, hY2, cY2⟩
          obtain ⟨m3, m4, L2, S2⟩ := HT.out Y2 (j) (by have := HX.out; omega) (HX.out.2.2.1) hY2 cY2
          cases q
          · have HE : Hid (DnE fb b c n N F w Y2) := HDn.out.stop HK.out.1 (of_decide_eq_false HK.out.2) hY2 cY2
            clear hY2 cY2
            go_wp2_with fail
            go_ret
            exact ⟨⟨_, rfl⟩, HE.out⟩
          · clear hY2 cY2
            go_wp2_with fail
            with_reducible refine Calls.mono S2.out ?_
            rintro en Y3 ⟨rfl, h3, c3⟩
            have HY := hqHid (HDn.out.step HX.out.1 HX.out.2.2.2.2.1 (by have := HX.out; omega) HX.out.2.2.1 (by have := HX.out; omega) HK.out.1 (of_decide_eq_true HK.out.2) h3 c3)
            clear h3 c3
            go_wp2_with fail
            go_roundw
            · exact ⟨j, by first | rfl | go_num, by have := HX.out; omega, _, HY.out⟩
            · have := HX.out
              simp [intOf]
              omega
        · obtain ⟨m1, m2, L1, S1⟩ := HT.out Y (j + 1) (by have := HX.out; omega) HH2.out hY cY
          have km := kid_r (N := N) HX.out.2.2.2.2.2 (of_decide_eq_true Hq1.out)
          obtain ⟨q, hq⟩ : ∃ q, decide (F'.getD (j + 1) 0 < F'.getD i 0) = q := ⟨_, rfl⟩
          rw [show ((j + 1 : Nat) : Int) = (j : Int) + 1 by omega] at L1 S1
          rw [hq] at L1
          have HK := hqHid (And.intro km hq)
          clear hY cY km hq
          go_wp2_with fail
          with_reducible refine Calls.mono L1.out ?_
          rintro en Y2 ⟨rfl, hY2, cY2⟩
          obtain ⟨m3, m4, L2, S2⟩ := HT.out Y2 (j + 1) (by have := HX.out; omega) (HH2.out) hY2 cY2
          rw [show ((j + 1 : Nat) : Int) = (j : Int) + 1 by omega] at L2 S2
          cases q
          · have HE : Hid (DnE fb b c n N F w Y2) := HDn.out.stop HK.out.1 (of_decide_eq_false HK.out.2) hY2 cY2
            clear hY2 cY2
            go_wp2_with fail
            go_ret
            exact ⟨⟨_, rfl⟩, HE.out⟩
          · clear hY2 cY2
            go_wp2_with fail
            with_reducible refine Calls.mono S2.out ?_
            rintro en Y3 ⟨rfl, h3, c3⟩
            have HY := hqHid (HDn.out.step HX.out.1 HX.out.2.2.2.2.1 (by have := HX.out; omega) HH2.out (by have := HX.out; omega) HK.out.1 (of_decide_eq_true HK.out.2) h3 c3)
            clear h3 c3
            go_wp2_with fail
            go_roundw
            · exact ⟨j + 1, by first | rfl | go_num, by have := HX.out; have := HH2.out; omega, _, HY.out⟩
            · have := HX.out
              simp [intOf]
              omega
      · have h2' : ¬ ((j : Int) + 1 < (N : Int)) := by omega
        obtain ⟨m1, m2, L1, S1⟩ := HT.out wr j HX.out.2.1 HX.out.2.2.1 dn.hp dn.ch
        have km := kid_one (F := F') hj h2
        obtain ⟨q, hq⟩ : ∃ q, decide (F'.getD j 0 < F'.getD i 0) = q := ⟨_, rfl⟩
        rw [hq] at L1
        have HK := hqHid (And.intro km hq)
        clear hk dn hl' HI lim hj h1 h2 km hq
        go_wp2_with fail
        with_reducible refine Calls.mono L1.out ?_
        rintro en Y2 ⟨rfl, hY2, cY2⟩
        obtain ⟨m3, m4, L2, S2⟩ := HT.out Y2 (j) (by have := HX.out; omega) (HX.out.2.2.1) hY2 cY2
        cases q
        · have HE : Hid (DnE fb b c n N F w Y2) := HDn.out.stop HK.out.1 (of_decide_eq_false HK.out.2) hY2 cY2
          clear hY2 cY2
          go_wp2_with fail
          go_ret
          exact ⟨⟨_, rfl⟩, HE.out⟩
        · clear hY2 cY2
          go_wp2_with fail
          with_reducible refine Calls.mono S2.out ?_
          rintro en Y3 ⟨rfl, h3, c3⟩
          have HY := hqHid (HDn.out.step HX.out.1 HX.out.2.2.2.2.1 (by have := HX.out; omega) HX.out.2.2.1 (by have := HX.out; omega) HK.out.1 (of_decide_eq_true HK.out.2) h3 c3)
          clear h3 c3
          go_wp2_with fail
          go_roundw
          · exact ⟨j, by first | rfl | go_num, by have := HX.out; omega, _, HY.out⟩
          · have := HX.out
            simp [intOf]
            omega
end Go.Proofs.Ytibhjkmbbfgnpaa

/- The heap with its order: one more in it, the least out of it. -/
namespace Go.Proofs.Ytibhjkmbbfgnpaa
open Go.RowKit
set_option maxRecDepth 100000 in
set_option maxHeartbeats 1600000 in
theorem push_ex (w : World) (fb : Nat) (v : Value) (F : List Nat) (h : Hp fb v F w) (hn : F.length ≤ 100000) (hq : Hq F F.length) (x : Nat) : Calls Try.prog 77 #[.iface 110 (.pointer (some ⟨fb, 0, none⟩)), .iface 3 (.int .i64 (x : Int))] w fun e w' => e = .returned (.tuple #[]) ∧ ∃ v' F', F'.Perm (F ++ [x]) ∧ Hq F' F'.length ∧ Hp fb v' F' w' ∧ Ch fb v v' w w' := by
  have mt := mtPush (.pointer (some ⟨fb, 0, none⟩)) w
  have C1 : Hid (Calls Try.prog 123 #[.pointer (some ⟨fb, 0, none⟩), .iface 3 (.int .i64 (x : Int))] w fun e w' => e = .returned (.tuple #[]) ∧ ∃ v', Hp fb v' (F ++ [x]) w' ∧ Ch fb v v' w w') := mpush_any w fb v F h (by omega) x
  have HN : Hid (F.length ≤ 100000) := hn
  have HQ : Hid (Hq F F.length) := hq
  clear h hn hq
  go_enter Try.func77, Try.ntmps77
  go_wp2_with fail
  with_reducible refine Calls.mono C1.out ?_
  rintro en W1 ⟨rfl, v', h1, c1⟩
  have hl : (F ++ [x]).length = F.length + 1 := by simp
  obtain ⟨n, hn⟩ : ∃ n, F.length = n := ⟨_, rfl⟩
  obtain ⟨b, c, -, e, -, -⟩ := own_at h1.own (by simp)
  rw [hl, hn] at e
  subst e
  have mt2 := mt_of rowLen ⟨fb, 0, none⟩ W1 _ h1.cell.1
  have C2 : Hid (Calls Try.prog 78 #[.slice (some ⟨b, 0, none⟩) (n + 1) c] W1 fun e w' => e = .returned (.int .i64 ((n + 1 : Nat) : Int)) ∧ w' = W1) := len_any W1 (some ⟨b, 0, none⟩) (n + 1) c
  have w1 : wrap64 ((n : Int) + 1 - 1) = (n : Int) := by unfold wrap64; have := HN.out; omega
  have w2 : wrap64 (n : Int) = (n : Int) := by unfold wrap64; have := HN.out; omega
  have C3 : Hid (Calls Try.prog 97 #[.iface 110 (.pointer (some ⟨fb, 0, none⟩)), .int .i64 (n : Int)] W1 fun e w' => e = .returned (.tuple #[]) ∧ ∃ F', F'.Perm (F ++ [x]) ∧ Hq F' (n + 1) ∧ Hp fb (.slice (some ⟨b, 0, none⟩) (n + 1) c) F' w' ∧ Ch fb (.slice (some ⟨b, 0, none⟩) (n + 1) c) (.slice (some ⟨b, 0, none⟩) (n + 1) c) W1 w') := up_ex W1 fb b c (n + 1) (F ++ [x]) h1 (by simp [hn]) (by have := HN.out; omega) n (by omega) (hn ▸ HQ.out.push rfl x)
  have HC : Hid (Ch fb v (.slice (some ⟨b, 0, none⟩) (n + 1) c) w W1) := c1
  have HL1 : Hid ((F ++ [x]).length = n + 1) := by show _ = _; rw [hl, hn]
  clear h1 c1 hl hn
  go_wp2_with fail
  with_reducible refine Calls.mono C2.out ?_
  rintro en W2 ⟨rfl, rfl⟩
  go_wp2_with fail
  with_reducible refine Calls.mono C3.out ?_
  rintro en W3 ⟨rfl, F', p3, q3, h3, c3⟩
  have HE : Hid (∃ v' F', F'.Perm (F ++ [x]) ∧ Hq F' F'.length ∧ Hp fb v' F' W3 ∧ Ch fb v v' w W3) := ⟨_, F', p3, by rw [p3.length_eq, HL1.out]; exact q3, h3, HC.out.trans c3⟩
  clear p3 h3 c3 q3
  go_wp2_with fail
  go_end0
  exact ⟨rfl, HE.out⟩
set_option maxRecDepth 100000 in
set_option maxHeartbeats 1600000 in
theorem pop_ex (w : World) (fb : Nat) (v : Value) (F : List Nat) (h : Hp fb v F w) (hn : F.length ≤ 100000) (h0 : 0 < F.length) (hq : Hq F F.length) : Calls Try.prog 79 #[.iface 110 (.pointer (some ⟨fb, 0, none⟩))] w fun e w' => ∃ (x : Nat) (v' : Value) (F' : List Nat), e = .returned (.iface 3 (.int .i64 (x : Int))) ∧ F.Perm (x :: F') ∧ (∀ y ∈ F, x ≤ y) ∧ Hq F' F'.length ∧ Hp fb v' F' w' ∧ Ch fb v v' w w' := by
  obtain ⟨n, hl⟩ : ∃ n, F.length = n + 1 := ⟨F.length - 1, by omega⟩
  obtain ⟨b, c, -, e, -, -⟩ := own_at h.own h0
  rw [hl] at e
  subst e
  have mt := mt_of rowLen ⟨fb, 0, none⟩ w _ h.cell.1
  have mt2 := mt_of rowSwap ⟨fb, 0, none⟩ w _ h.cell.1
  have C1 : Hid (Calls Try.prog 78 #[.slice (some ⟨b, 0, none⟩) (n + 1) c] w fun e w' => e = .returned (.int .i64 ((n + 1 : Nat) : Int)) ∧ w' = w) := len_any w (some ⟨b, 0, none⟩) (n + 1) c
  have w1 : wrap64 ((n : Int) + 1 - 1) = (n : Int) := by unfold wrap64; omega
  have w2 : wrap64 (n : Int) = (n : Int) := by unfold wrap64; omega
  have CS := swapHx h hl (.refl _ _ _) 0 n (by omega) (by omega)
  have HQ : Hid (Dq (swp F 0 n) n 0 ∧ (swp F 0 n).getD n 0 = F.getD 0 0 ∧ (∀ y ∈ F, F.getD 0 0 ≤ y) ∧ (swp F 0 n).Perm F) := by
    have q := hq
    rw [hl] at q
    exact ⟨(q.pop hl.symm).1, (q.pop hl.symm).2, fun y hy => hq.least hy, swp_perm (by omega) (by omega)⟩
  obtain ⟨F2, hF2⟩ : ∃ F2, swp F 0 n = F2 := ⟨_, rfl⟩
  rw [hF2] at CS HQ
  have C2 : Hid (Calls Try.prog 124 #[.slice (some ⟨b, 0, none⟩) (n + 1) c, .int .i64 0, .int .i64 (n : Int)] w fun e w' => e = .returned (.tuple #[]) ∧ Hp fb (.slice (some ⟨b, 0, none⟩) (n + 1) c) F2 w' ∧ Ch fb (.slice (some ⟨b, 0, none⟩) (n + 1) c) (.slice (some ⟨b, 0, none⟩) (n + 1) c) w w') := CS
  have HN : Hid (F.length = n + 1 ∧ F.length ≤ 100000) := ⟨hl, hn⟩
  clear h hn h0 hl CS hq hF2
  go_enter Try.func79, Try.ntmps79
  go_wp2_with fail
  with_reducible refine Calls.mono C1.out ?_
  rintro en W1 ⟨rfl, rfl⟩
  go_wp2_with fail
  with_reducible refine Calls.mono C2.out ?_
  rintro en W2 ⟨rfl, h2, c2⟩
  have p2 := HQ.out.2.2.2
  have C3 : Hid (Calls Try.prog 98 #[.iface 110 (.pointer (some ⟨fb, 0, none⟩)), .int .i64 0, .int .i64 (n : Int)] W2 fun e w' => (∃ q, e = .returned (.bool q)) ∧ DnE fb b c (n + 1) n F2 W2 w') := down_ex W2 fb b c (n + 1) F2 h2 (by rw [p2.length_eq]; exact HN.out.1) (by have := HN.out; omega) n (by omega) HQ.out.1
  have H2 : Hid (F2.Perm F ∧ Ch fb (.slice (some ⟨b, 0, none⟩) (n + 1) c) (.slice (some ⟨b, 0, none⟩) (n + 1) c) W1 W2) := ⟨p2, c2⟩
  clear p2 h2 c2
  go_wp2_with fail
  with_reducible refine Calls.mono C3.out ?_
  rintro en W3 ⟨⟨q, rfl⟩, F3, p3, q3, f3, h3, c3⟩
  obtain ⟨G, x, hG⟩ : ∃ G x, F3 = G ++ [x] := by
    rcases F3.eq_nil_or_concat with e | ⟨G, x, e⟩
    · have := p3.length_eq
      rw [H2.out.1.length_eq, HN.out.1, e] at this
      simp at this
    · exact ⟨G, x, by rw [e]; simp⟩
  subst hG
  have lG : G.length = n := by
    have := p3.length_eq
    rw [H2.out.1.length_eq, HN.out.1] at this
    simpa using this
  have xe : x = F.getD 0 0 := by
    have h := f3 n (Nat.le_refl _)
    rw [HQ.out.2.1] at h
    rw [← h]
    simp [List.getD, ← lG]
  have q3' := q3.take lG.symm
  have HX : Hid ((∀ y ∈ F, x ≤ y) ∧ Hq G G.length) := ⟨fun y hy => xe ▸ HQ.out.2.2.1 y hy, by rw [lG]; exact q3'⟩
  have mt3 := mtPop (.pointer (some ⟨fb, 0, none⟩)) W3
  have C4 : Hid (Calls Try.prog 122 #[.pointer (some ⟨fb, 0, none⟩)] W3 fun e w' => e = .returned (.iface 3 (.int .i64 (x : Int))) ∧ ∃ v', Hp fb v' G w' ∧ Ch fb (.slice (some ⟨b, 0, none⟩) (n + 1) c) v' W3 w') := mpop_any W3 fb _ G x h3 (by have := HN.out; omega)
  have H3 : Hid (F.Perm (x :: G) ∧ Ch fb (.slice (some ⟨b, 0, none⟩) (n + 1) c) (.slice (some ⟨b, 0, none⟩) (n + 1) c) W1 W3) := ⟨(H2.out.1.symm.trans p3.symm).trans (List.perm_append_singleton x G), H2.out.2.trans c3⟩
  clear p3 h3 c3 lG q3 f3 xe q3'
  go_wp2_with fail
  with_reducible refine Calls.mono C4.out ?_
  rintro en W4 ⟨rfl, v4, h4, c4⟩
  have HE : Hid (∃ v' F', F.Perm (x :: F') ∧ (∀ y ∈ F, x ≤ y) ∧ Hq F' F'.length ∧ Hp fb v' F' W4 ∧ Ch fb (.slice (some ⟨b, 0, none⟩) (n + 1) c) v' W1 W4) := ⟨v4, G, H3.out.1, HX.out.1, HX.out.2, h4, H3.out.2.trans c4⟩
  clear h4 c4
  go_wp2_with fail
  go_ret
  obtain ⟨v', F', e1, e2, e3, e4⟩ := HE.out
  exact ⟨x, v', F', rfl, e1, e2, e3, e4⟩
end Go.Proofs.Ytibhjkmbbfgnpaa
