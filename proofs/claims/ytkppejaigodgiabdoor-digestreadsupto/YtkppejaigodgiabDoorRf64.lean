/- The document's own UnBase64. -/
import Derived.Test.YtkppejaigodgiabDoorRfW
import Derived.Test.YtkppejaigodgiabDoorUn64
namespace Go.Proofs.YtkppejaigodgiabDoor
open Go.RowKit
theorem tl_dig64 : tl dig64A = D64 := by decide +kernel
theorem worth64 (c v : Nat) (hv : v = kv D64 c) (hc : D64.idxOf c < D64.length) (w : World) : Calls Tryd.prog 62 #[.string dig64A, .int .u8 (c : Int)] w fun e w' => e = .returned (.int .i64 (v : Int)) ∧ w' = w := by
  have := worth_any dig64A (by decide) c w
  rw [tl_dig64] at this
  unfold wv at this
  rw [if_pos hc] at this
  rw [hv]
  exact this
def headR' : Code → Option Nat
  | .region id _ _ => some id
  | .seq a _ => headR' a
  | .scope c => headR' c
  | .block _ c => headR' c
  | _ => none
def fromR' (n : Nat) : Code → Option Code
  | .seq a b => if headR' a = some n then some (.seq a b) else match fromR' n a with
    | some c => some (.seq c b)
    | none => fromR' n b
  | .scope c => fromR' n c
  | _ => none
noncomputable def tail50 : Code := ((Tryd.f50.body.bind (fromR' 8)).getD .skip)
attribute [local go_sem ↓] toApp
set_option maxRecDepth 100000 in
set_option maxHeartbeats 3200000 in
theorem tail50_any (s : ByteArray) (hs : s.size ≤ 1099511627776) (d : Nat) (hds : d ≤ s.size) (HN : Hid ((tl s).take d = noFill (tl s))) (H4 : Hid ((tl s).length % 4 = 0)) (v1 v2 v3 v4 v6 v7 v8 v9 v10 v11 v12 v13 v14 v15 v16 v17 v18 v19 v20 v21 v22 v23 v24 v25 v26 v27 v28 v29 v30 v31 v32 v33 v34 v35 v36 v37 v38 v39 v40 v41 v42 v43 v44 v45 v46 v47 v48 v49 v50 v51 v52 v53 v54 v55 v56 v57 v58 v59 v60 v61 v62 v63 v64 v65 v66 v67 v68 v69 v70 v71 v72 v73 v74 v75 v76 v77 v78 v79 v80 : Value) (w : World)
    (R : Ending → World → Prop) (hR : Hid (∀ e w', RdP (v64V (tl s)) (v64E (tl s)) w e w' → R e w')) :
    Code.wp Tryd.prog tail50 (bodyPost Tryd.prog Tryd.f50 R) ⟨#[.string s, v1, v2, v3, v4, .int .i64 (d : Int), v6, v7, v8, v9, v10, v11, v12, v13, v14, v15, v16, v17, v18, v19, v20, v21, v22, v23, v24, v25, v26, v27, v28, v29, v30, v31, v32, v33, v34, v35, v36, v37, v38, v39, v40, v41, v42, v43, v44, v45, v46, v47, v48, v49, v50, v51, v52, v53, v54, v55, v56, v57, v58, v59, v60, v61, v62, v63, v64, v65, v66, v67, v68, v69, v70, v71, v72, v73, v74, v75, v76, v77, v78, v79, v80], []⟩ w := by
  obtain ⟨D, hD⟩ : ∃ D, s.extract 0 d = D := ⟨_, rfl⟩
  have hDs : D.size = d := by rw [← hD, ByteArray.size_extract]; omega
  have HD : Hid (tl D = noFill (tl s)) := by show _ = _; rw [← hD, tl_take s d hds, HN.out]
  have HDl : Hid ((tl D).length = D.size) := tl_len D
  have hbyt : Hid (∀ k, k < d → byt s k = byt D k) := fun k hk => by
    have h1 := tl_get D k (by omega)
    rw [← hD, tl_take s d hds] at h1
    rw [← hD, ← h1, ← tl_get s k (by omega)]
    simp [List.getD, hk]
  subst hDs
  have CB : Hid (∀ W, Calls Tryd.prog 61 #[.string dig64A, .string D] W fun e w' => e = .returned (.int .i64 (badV D64 (tl D))) ∧ w' = W) := fun W => by
    have := bad_any dig64A (by decide) D (by omega) W
    rw [tl_dig64] at this
    exact this
  have hd0 : (0 : Int) ≤ (D.size : Int) := by omega
  have hd1 : (D.size : Int) ≤ (s.size : Int) := by omega
  conv => arg 2; whnf
  go_wp2_with fail
  refine (CB.out w).mono ?_
  rintro e w' ⟨rfl, rfl⟩
  clear CB hD
  by_cases hA : fuL D64 (tl D) < (tl D).length
  · have hE : Hid (v64E (tl s) = (10, fuL D64 (tl D))) := by
      show _ = _
      unfold v64E
      rw [if_neg (by have := H4.out; omega), ← HD.out, if_pos hA]
    have hbv : badV D64 (tl D) = ((fuL D64 (tl D) : Nat) : Int) := by unfold badV; rw [if_pos hA]
    rw [hbv]
    obtain ⟨q, hq⟩ : ∃ q, q = fuL D64 (tl D) := ⟨_, rfl⟩
    rw [← hq] at hE ⊢
    have hq0 : (0 : Int) ≤ (q : Int) := by omega
    clear hbv hA hq
    go_wp2_with fail
    go_ret3
    refine hR.out _ _ ⟨Below.refl _ _, .slice none 0 0, ?_, ?_⟩
    · rw [hE.out]; rfl
    · rw [hE.out]; rfl
  · have hbv : badV D64 (tl D) = -1 := by unfold badV; rw [if_neg hA]
    rw [hbv]
    clear hbv
    have HF : Hid (¬ fuL D64 (tl D) < (tl D).length) := hA
    have HI : Hid (∀ k, k ≤ D.size → (s64 (tl D) k).2.2 = 6 * k % 8 ∧ (s64 (tl D) k).2.1 < 2 ^ (6 * k % 8) ∧ (s64 (tl D) k).1.length = 6 * k / 8) := fun k hk => s64_inv (tl D) (fun j hj => fuL_all D64 (tl D) HF.out j hj) k (by rw [HDl.out]; exact hk)
    clear hA
    go_wp2_with fail
    go_loopw [8, 9, 10, 11] (fun ov b h i wr => ∃ k x y : Nat, i = .int .i64 (k : Int) ∧ h = .int .i64 (x : Int) ∧ b = .int .i64 (y : Int) ∧ Hid ((s64 (tl D) k).2.1 = x) ∧ Hid ((s64 (tl D) k).2.2 = y) ∧ k ≤ D.size ∧ Hid (wr.ownsRow w'.heap.size 5 1 ov (6 * k / 8) (bs (s64 (tl D) k).1).toList) ∧ Hid (Below w'.heap.size w' wr)) (fun _ _ _ i _ => D.size - (intOf i).toNat)
    case atStart => exact ⟨0, 0, 0, rfl, rfl, rfl, rfl, rfl, by omega, World.ownsRow_nil _ _ _ _, Below.refl _ _⟩
    case round =>
      obtain ⟨k, x, y, rfl, rfl, rfl, HX, HY, hk, HO, HB⟩ := hrel
      by_cases hlt : k < D.size
      · have hk0 : (0 : Int) ≤ (k : Int) := by omega
        have hk1 : (k : Int) < (D.size : Int) := by omega
        have hk2 : (k : Int) < (s.size : Int) := by omega
        obtain ⟨i1, i2, i3⟩ := HI.out k hk
        rw [HY.out] at i1
        rw [HX.out] at i2
        obtain ⟨c, hc⟩ : ∃ c, c = byt D k := ⟨_, rfl⟩
        have hix : ∀ W : World, (Instr.index 9 (.string s) (.int .i64 (k : Int))).run Tryd.prog W = .ok (.int .u8 (c : Int)) W := fun W => by rw [hc, ← hbyt.out k hlt]; exact idx9 W s k (by omega)
        have kc := fuL_all D64 (tl D) HF.out k (by rw [HDl.out]; exact hlt)
        rw [tl_get D k hlt, ← hc] at kc
        obtain ⟨v, hv⟩ : ∃ v, v = kv D64 c := ⟨_, rfl⟩
        have hv64 : v < 64 := by rw [hv]; exact kc
        have CV : Hid (Calls Tryd.prog 62 #[.string dig64A, .int .u8 (c : Int)] wr fun e w' => e = .returned (.int .i64 (v : Int)) ∧ w' = wr) := worth64 c v hv kc wr
        have HS : Hid (s64 (tl D) (k + 1) = step64 (s64 (tl D) k) v) := by
          show _ = _
          rw [s64_step _ _ (by rw [HDl.out]; exact hlt), tl_get D k hlt, ← hc, ← hv]
        have hx64 : x < 64 := Nat.lt_of_lt_of_le i2 (by
          have : 2 ^ (6 * k % 8) ≤ 2 ^ 6 := Nat.pow_le_pow_right (by decide) (by omega)
          exact this)
        obtain ⟨H, hH⟩ : ∃ H, H = x * 64 + v := ⟨_, rfl⟩
        have hHI : (x : Int) * 64 + (v : Int) = (H : Int) := by omega
        have hHI2 : 64 * (x : Int) + (v : Int) = (H : Int) := by omega
        have hH4 : H < 4096 := by omega
        have HH : Hid (H = x * 64 + v) := hH
        have hbz := HB.out.size
        clear hc hv kc hH
        have hy : y = 0 ∨ y = 6 ∨ y = 4 ∨ y = 2 := by omega
        rcases hy with rfl | hy
        · have HO1 : Hid (wr.ownsRow w'.heap.size 5 1 u8 (6 * (k + 1) / 8) (bs (s64 (tl D) (k + 1)).1).toList) := by
            have e1 : (s64 (tl D) (k + 1)).1 = (s64 (tl D) k).1 := by rw [HS.out]; unfold step64; rw [HY.out]; rfl
            rw [e1, show 6 * (k + 1) / 8 = 6 * k / 8 by omega]
            exact HO
          have HX1 : Hid ((s64 (tl D) (k + 1)).2.1 = H) := by show _ = _; rw [HS.out]; unfold step64; rw [HY.out, HX.out, HH.out]; rfl
          have HY1 : Hid ((s64 (tl D) (k + 1)).2.2 = 6) := by show _ = _; rw [HS.out]; unfold step64; rw [HY.out]; rfl
          clear HO HX HY HS i1 i2 i3
          go_wp2_with (go_at_call 62; refine CV.out.mono ?_; rintro e wq ⟨rfl, hw'⟩; have hw2 := hw'.symm; subst hw2)
          go_roundw
          case rel => exact ⟨k + 1, H, 6, by go_num, rfl, rfl, HX1, HY1, by omega, HO1, HB⟩
          case measure => simp [intOf]; omega
        rcases hy with rfl | rfl | rfl
        · obtain ⟨Xq, hXq⟩ : ∃ q, q = H / 16 % 256 := ⟨_, rfl⟩
          obtain ⟨Hq, hHq⟩ : ∃ q, q = H % 16 := ⟨_, rfl⟩
          obtain ⟨v1, w1, hr1, ho1, bel1⟩ := run_app1 wr w'.heap.size (6 * k / 8) u8 _ Xq HO.out (by omega) hbz
          have HO1 : Hid (w1.ownsRow w'.heap.size 5 1 v1 (6 * (k + 1) / 8) (bs (s64 (tl D) (k + 1)).1).toList) := by
            have e1 : (s64 (tl D) (k + 1)).1 = (s64 (tl D) k).1 ++ [Xq] := by rw [HS.out]; unfold step64; rw [HY.out, HX.out, ← HH.out, hXq]; rfl
            rw [e1, show 6 * (k + 1) / 8 = 6 * k / 8 + 1 by omega]
            exact ho1
          have HX1 : Hid ((s64 (tl D) (k + 1)).2.1 = Hq) := by show _ = _; rw [HS.out]; unfold step64; rw [HY.out, HX.out, ← HH.out, hHq]; rfl
          have HY1 : Hid ((s64 (tl D) (k + 1)).2.2 = 4) := by show _ = _; rw [HS.out]; unfold step64; rw [HY.out]; rfl
          have HB1 : Hid (Below w'.heap.size w' w1) := HB.out.trans bel1
          have hand : bits BinOp.and IntKind.i64 (H : Int) 15 = (Hq : Int) := by rw [hHq]; exact i64_and_nat H 4 (by omega) (by omega)
          have hXI : (H : Int) / 16 % 256 = (Xq : Int) := by omega
          have hXW : IntKind.u8.wrap ((H : Int) / 16) = (Xq : Int) := by rw [IntKind.wrap_u8]; omega
          clear HO HX HY HS i1 i2 i3 ho1 bel1 hXq hHq
          go_wp2_with (go_at_call 62; refine CV.out.mono ?_; rintro e wq ⟨rfl, hw'⟩; have hw2 := hw'.symm; subst hw2)
          go_roundw
          case rel => exact ⟨k + 1, Hq, 4, by go_num, rfl, rfl, HX1, HY1, by omega, HO1, HB1⟩
          case measure => simp [intOf]; omega
        · obtain ⟨Xq, hXq⟩ : ∃ q, q = H / 4 % 256 := ⟨_, rfl⟩
          obtain ⟨Hq, hHq⟩ : ∃ q, q = H % 4 := ⟨_, rfl⟩
          obtain ⟨v1, w1, hr1, ho1, bel1⟩ := run_app1 wr w'.heap.size (6 * k / 8) u8 _ Xq HO.out (by omega) hbz
          have HO1 : Hid (w1.ownsRow w'.heap.size 5 1 v1 (6 * (k + 1) / 8) (bs (s64 (tl D) (k + 1)).1).toList) := by
            have e1 : (s64 (tl D) (k + 1)).1 = (s64 (tl D) k).1 ++ [Xq] := by rw [HS.out]; unfold step64; rw [HY.out, HX.out, ← HH.out, hXq]; rfl
            rw [e1, show 6 * (k + 1) / 8 = 6 * k / 8 + 1 by omega]
            exact ho1
          have HX1 : Hid ((s64 (tl D) (k + 1)).2.1 = Hq) := by show _ = _; rw [HS.out]; unfold step64; rw [HY.out, HX.out, ← HH.out, hHq]; rfl
          have HY1 : Hid ((s64 (tl D) (k + 1)).2.2 = 2) := by show _ = _; rw [HS.out]; unfold step64; rw [HY.out]; rfl
          have HB1 : Hid (Below w'.heap.size w' w1) := HB.out.trans bel1
          have hand : bits BinOp.and IntKind.i64 (H : Int) 3 = (Hq : Int) := by rw [hHq]; exact i64_and_nat H 2 (by omega) (by omega)
          have hXI : (H : Int) / 4 % 256 = (Xq : Int) := by omega
          have hXW : IntKind.u8.wrap ((H : Int) / 4) = (Xq : Int) := by rw [IntKind.wrap_u8]; omega
          clear HO HX HY HS i1 i2 i3 ho1 bel1 hXq hHq
          go_wp2_with (go_at_call 62; refine CV.out.mono ?_; rintro e wq ⟨rfl, hw'⟩; have hw2 := hw'.symm; subst hw2)
          go_roundw
          case rel => exact ⟨k + 1, Hq, 2, by go_num, rfl, rfl, HX1, HY1, by omega, HO1, HB1⟩
          case measure => simp [intOf]; omega
        · obtain ⟨Xq, hXq⟩ : ∃ q, q = H / 1 % 256 := ⟨_, rfl⟩
          obtain ⟨Hq, hHq⟩ : ∃ q, q = H % 1 := ⟨_, rfl⟩
          obtain ⟨v1, w1, hr1, ho1, bel1⟩ := run_app1 wr w'.heap.size (6 * k / 8) u8 _ Xq HO.out (by omega) hbz
          have HO1 : Hid (w1.ownsRow w'.heap.size 5 1 v1 (6 * (k + 1) / 8) (bs (s64 (tl D) (k + 1)).1).toList) := by
            have e1 : (s64 (tl D) (k + 1)).1 = (s64 (tl D) k).1 ++ [Xq] := by rw [HS.out]; unfold step64; rw [HY.out, HX.out, ← HH.out, hXq]; rfl
            rw [e1, show 6 * (k + 1) / 8 = 6 * k / 8 + 1 by omega]
            exact ho1
          have HX1 : Hid ((s64 (tl D) (k + 1)).2.1 = Hq) := by show _ = _; rw [HS.out]; unfold step64; rw [HY.out, HX.out, ← HH.out, hHq]; rfl
          have HY1 : Hid ((s64 (tl D) (k + 1)).2.2 = 0) := by show _ = _; rw [HS.out]; unfold step64; rw [HY.out]; rfl
          have HB1 : Hid (Below w'.heap.size w' w1) := HB.out.trans bel1
          have hand : bits BinOp.and IntKind.i64 (H : Int) 0 = (Hq : Int) := by rw [hHq]; exact i64_and_nat H 0 (by omega) (by omega)
          have hXI : (H : Int) / 1 % 256 = (Xq : Int) := by omega
          have hXW : IntKind.u8.wrap ((H : Int) / 1) = (Xq : Int) := by rw [IntKind.wrap_u8]; omega
          have hXI1 : (H : Int) % 256 = (Xq : Int) := by omega
          have hXW1 : IntKind.u8.wrap (H : Int) = (Xq : Int) := by rw [IntKind.wrap_u8]; omega
          clear HO HX HY HS i1 i2 i3 ho1 bel1 hXq hHq
          go_wp2_with (go_at_call 62; refine CV.out.mono ?_; rintro e wq ⟨rfl, hw'⟩; have hw2 := hw'.symm; subst hw2)
          go_roundw
          case rel => exact ⟨k + 1, Hq, 0, by go_num, rfl, rfl, HX1, HY1, by omega, HO1, HB1⟩
          case measure => simp [intOf]; omega
      · have hk1 : ¬ ((k : Int) < (D.size : Int)) := by omega
        have hke : k = D.size := by omega
        subst hke
        have HL : Hid ((v64V (tl s)).length = 6 * D.size / 8 ∧ v64V (tl s) = (s64 (tl D) D.size).1) := by
          have e : v64V (tl s) = (s64 (tl D) D.size).1 := by unfold v64V; rw [← HD.out, HDl.out]
          exact ⟨by rw [e]; exact (HI.out D.size hk).2.2, e⟩
        have HV : Hid (v64H (tl s) = x) := by show _ = _; unfold v64H; rw [← HD.out, HDl.out]; exact HX.out
        have HE0 : Hid (v64E (tl s) = if ¬ x = 0 then (11, D.size - 1) else (0, 0)) := by
          show _ = _
          unfold v64E
          rw [if_neg (by have := H4.out; omega), ← HD.out, if_neg HF.out, HV.out, HDl.out]
        have hD0 : ¬ x = 0 → 0 < D.size := fun h => by
          rcases Nat.eq_zero_or_pos D.size with h0 | h0
          · have := HX.out
            rw [h0] at this
            exact absurd this.symm h
          · exact h0
        by_cases hx : x = 0
        · subst hx
          have hE : Hid (v64E (tl s) = (0, 0)) := by show _ = _; rw [HE0.out]; rfl
          clear HE0
          go_wp2_with fail
          go_ret3
          refine hR.out _ _ ⟨HB.out, u8, ?_, ?_⟩
          · rw [hE.out]; rfl
          · rw [hE.out]
            show World.ownsRow _ _ _ _ _ _ _
            rw [HL.out.1, HL.out.2]
            exact HO.out
        · have hx' : ¬ ((x : Int) = 0) := by omega
          have hE : Hid (v64E (tl s) = (11, D.size - 1)) := by show _ = _; rw [HE0.out, if_pos hx]
          have hpos := hD0 hx
          have hw1 : IntKind.i64.wrap ((D.size : Int) - 1) = ((D.size - 1 : Nat) : Int) := by rw [IntKind.wrap_i64]; omega
          have hw1' : (D.size : Int) - 1 = ((D.size - 1 : Nat) : Int) := by omega
          clear HE0
          go_wp2_with fail
          go_ret3
          refine hR.out _ _ ⟨HB.out, .slice none 0 0, ?_, ?_⟩
          · rw [hE.out]; rfl
          · rw [hE.out]; rfl
theorem nfN_fix (t : List Nat) (j : Nat) (hj : j ≤ 2) (h : nf1 (nfN j t) = nfN j t) : nfN j t = noFill t := by
  have : j = 0 ∨ j = 1 ∨ j = 2 := by omega
  rcases this with rfl | rfl | rfl
  · have h' : nf1 t = t := h
    show t = nf1 (nf1 t)
    rw [h', h']
  · exact h.symm
  · rfl
theorem nf1_take (t : List Nat) (dd : Nat) (hd : dd ≤ t.length) (h0 : 0 < dd) (h : t.getD (dd - 1) 0 = 61) : nf1 (t.take dd) = t.take (dd - 1) := by
  have hl : (t.take dd).length = dd := by rw [List.length_take]; omega
  unfold nf1
  rw [hl, if_pos ⟨h0, by rw [← h]; simp [List.getD, show dd - 1 < dd by omega]⟩, List.take_take, show min (dd - 1) dd = dd - 1 by omega]
theorem nf1_stay (t : List Nat) (dd : Nat) (hd : dd ≤ t.length) (h : 0 < dd → ¬ t.getD (dd - 1) 0 = 61) : nf1 (t.take dd) = t.take dd := by
  have hl : (t.take dd).length = dd := by rw [List.length_take]; omega
  unfold nf1
  rw [hl, if_neg]
  rintro ⟨h0, h1⟩
  refine h h0 ?_
  rw [← h1]
  simp [List.getD, show dd - 1 < dd by omega]
set_option maxRecDepth 100000 in
set_option maxHeartbeats 1600000 in
theorem un64R_any (s : ByteArray) (hs : s.size ≤ 1099511627776) (w : World) : Calls Tryd.prog 50 #[.string s] w (RdP (v64V (tl s)) (v64E (tl s)) w) := by
  have hTl := tl_len s
  by_cases h4 : s.size % 4 = 0
  case neg =>
    have hE : Hid (v64E (tl s) = (3, s.size)) := by show _ = _; unfold v64E; rw [if_pos (by rw [hTl]; exact h4), hTl]
    have h4' : ¬ ((s.size : Int) % 4 = 0) := by omega
    clear hTl
    go_enter Tryd.func50, Tryd.ntmps50
    go_wp2_with fail
    go_ret3
    refine ⟨Below.refl _ _, .slice none 0 0, ?_, ?_⟩
    · rw [hE.out]; rfl
    · rw [hE.out]; rfl
  case pos =>
  have h4' : (s.size : Int) % 4 = 0 := by omega
  have H4 : Hid ((tl s).length % 4 = 0) := by show _ = _; rw [hTl]; exact h4
  have HTl : Hid ((tl s).length = s.size) := hTl
  clear hTl h4
  go_enter Tryd.func50, Tryd.ntmps50
  go_wp2_with fail
  clear h4'
  go_loopw [5, 6] (fun dv kv wr => ∃ j dd : Nat, kv = .int .i64 (j : Int) ∧ dv = .int .i64 (dd : Int) ∧ j ≤ 2 ∧ dd ≤ s.size ∧ Hid ((tl s).take dd = nfN j (tl s)) ∧ wr = w) (fun _ kv _ => 2 - (intOf kv).toNat)
  case atStart => exact ⟨0, s.size, rfl, rfl, by omega, Nat.le_refl _, by show _ = _; rw [List.take_of_length_le (by rw [HTl.out]; exact Nat.le_refl _)]; rfl, rfl⟩
  case round =>
    obtain ⟨j, dd, rfl, rfl, hj, hdd, HN, rfl⟩ := hrel
    have hjI : (0 : Int) ≤ (j : Int) := by omega
    by_cases hgo : j < 2 ∧ 0 < dd ∧ byt s (dd - 1) = 61
    · obtain ⟨hj2, hd0, hc⟩ := hgo
      have hj2' : (j : Int) < 2 := by omega
      have hd0' : (0 : Int) < (dd : Int) := by omega
      have hix : ∀ W : World, (Instr.index 9 (.string s) (.int .i64 ((dd : Int) - 1))).run Tryd.prog W = .ok (.int .u8 61) W := fun W => by
        have := idx9 W s (dd - 1) (by omega)
        rw [hc, show ((dd - 1 : Nat) : Int) = (dd : Int) - 1 by omega] at this
        exact this
      have hn0 : (0 : Int) ≤ (dd : Int) - 1 := by omega
      have HN1 : Hid ((tl s).take (dd - 1) = nfN (j + 1) (tl s)) := by
        show _ = nf1 (nfN j (tl s))
        rw [← HN.out, nf1_take (tl s) dd (by rw [HTl.out]; exact hdd) hd0 (by rw [tl_get s _ (by omega)]; exact hc)]
      clear hc HN
      go_wp2_with fail
      go_roundw
      case rel => exact ⟨j + 1, dd - 1, by go_num, by rw [show ((dd - 1 : Nat) : Int) = (dd : Int) - 1 by omega], by omega, by omega, HN1, trivial⟩
      case measure => simp [intOf]; omega
    · have hst : (tl s).take dd = noFill (tl s) ∨ j = 2 := by
        by_cases hj2 : j = 2
        · exact .inr hj2
        · left
          rw [HN.out]
          refine nfN_fix (tl s) j hj ?_
          rw [← HN.out]
          refine nf1_stay (tl s) dd (by rw [HTl.out]; exact hdd) (fun h0 h1 => hgo ⟨by omega, h0, ?_⟩)
          rw [tl_get s _ (by omega)] at h1
          exact h1
      have HF : Hid ((tl s).take dd = noFill (tl s)) := by
        rcases hst with h | h
        · exact h
        · show _ = _
          rw [HN.out, h]
          rfl
      clear hst HN
      by_cases hj2 : j < 2
      · have hj2' : (j : Int) < 2 := by omega
        by_cases hd0 : 0 < dd
        · have hd0' : (0 : Int) < (dd : Int) := by omega
          obtain ⟨c, hc⟩ : ∃ c, c = byt s (dd - 1) := ⟨_, rfl⟩
          have hc61 : ¬ (c : Int) = 61 := by
            intro h
            exact hgo ⟨hj2, hd0, by omega⟩
          have hix : ∀ W : World, (Instr.index 9 (.string s) (.int .i64 ((dd : Int) - 1))).run Tryd.prog W = .ok (.int .u8 (c : Int)) W := fun W => by
            have := idx9 W s (dd - 1) (by omega)
            rw [← hc, show ((dd - 1 : Nat) : Int) = (dd : Int) - 1 by omega] at this
            exact this
          have hn0 : (0 : Int) ≤ (dd : Int) - 1 := by omega
          clear hgo hc
          rename_i K hKK
          have HT : Hid (∀ a w, Code.wp Tryd.prog tail50 _ a w → K a w) := hKK
          clear hKK
          go_wp2_with fail
          refine HT.out _ _ ?_
          exact tail50_any s hs dd hdd HF H4 _ _ _ _ _ _ _ _ _ _ _ _ _ _ _ _ _ _ _ _ _ _ _ _ _ _ _ _ _ _ _ _ _ _ _ _ _ _ _ _ _ _ _ _ _ _ _ _ _ _ _ _ _ _ _ _ _ _ _ _ _ _ _ _ _ _ _ _ _ _ _ _ _ _ _ _ _ _ _ wr _ (fun _ _ h => h)
        · have hd0' : ¬ (0 : Int) < (dd : Int) := by omega
          clear hgo
          rename_i K hKK
          have HT : Hid (∀ a w, Code.wp Tryd.prog tail50 _ a w → K a w) := hKK
          clear hKK
          go_wp2_with fail
          refine HT.out _ _ ?_
          exact tail50_any s hs dd hdd HF H4 _ _ _ _ _ _ _ _ _ _ _ _ _ _ _ _ _ _ _ _ _ _ _ _ _ _ _ _ _ _ _ _ _ _ _ _ _ _ _ _ _ _ _ _ _ _ _ _ _ _ _ _ _ _ _ _ _ _ _ _ _ _ _ _ _ _ _ _ _ _ _ _ _ _ _ _ _ _ _ wr _ (fun _ _ h => h)
      · have hj2' : ¬ (j : Int) < 2 := by omega
        clear hgo
        rename_i K hKK
        have HT : Hid (∀ a w, Code.wp Tryd.prog tail50 _ a w → K a w) := hKK
        clear hKK
        go_wp2_with fail
        refine HT.out _ _ ?_
        exact tail50_any s hs dd hdd HF H4 _ _ _ _ _ _ _ _ _ _ _ _ _ _ _ _ _ _ _ _ _ _ _ _ _ _ _ _ _ _ _ _ _ _ _ _ _ _ _ _ _ _ _ _ _ _ _ _ _ _ _ _ _ _ _ _ _ _ _ _ _ _ _ _ _ _ _ _ _ _ _ _ _ _ _ _ _ _ _ wr _ (fun _ _ h => h)
end Go.Proofs.YtkppejaigodgiabDoor
