/- The laws' outs, whole. -/
import Derived.Test.YtceclpabdfncoaaDoorRwE
namespace Go.Proofs.YtceclpabdfncoaaDoor.Re
open Go.RowKit
section
attribute [local go_sem ↓] toApS toApO
set_option maxRecDepth 100000 in
set_option maxHeartbeats 3200000 in
theorem outs_any (W : World) (nv sv iv av kv : Value) (p : Sp) (h : SpH W nv sv iv av kv p) : Calls Tryd.prog 7 #[.agg (spV nv sv iv av kv p)] W (OuP W) := by
  obtain ⟨nm, md, fl, so, ip, ar, ks, tx, sd⟩ := p
  obtain ⟨on, cn, rfl⟩ := h.nm.form
  obtain ⟨ln, hln⟩ : ∃ k, nm.length = k := ⟨_, rfl⟩
  rw [List.length_map, hln] at h ⊢
  have HL : Hid (nm.length = ln) := hln
  have HS : Hid _ := h
  unfold spV
  obtain ⟨C, hC⟩ : ∃ C : Array Value, C = #[.slice on ln cn, .int .i64 md, .bool fl, sv, iv, av, kv, .string tx, .int .u8 (sd : Int)] := ⟨_, rfl⟩
  have HC : Hid (C = #[.slice on ln cn, .int .i64 md, .bool fl, sv, iv, av, kv, .string tx, .int .u8 (sd : Int)]) := hC
  obtain ⟨W0, hW0⟩ : ∃ V, W.alloc (.cells C 25) = V := ⟨_, rfl⟩
  have bo0 : Bo W C W0 := by rw [← hW0]; exact Bo.nw W C
  have HW0 : Hid (Bo W C W0 ∧ W0.heap.size = W.heap.size + 1) := ⟨bo0, by rw [← hW0]; simp⟩
  rw [hC] at hW0
  clear h hln hC bo0
  go_enter Tryd.func7, Tryd.ntmps7
  go_wp2_with fail
  go_loopw [3, 4, 5, 6] (fun ov iv _ _ wr => ∃ (a : Option Addr) (n c i : Nat), ov = .slice a n c ∧ iv = .int .i64 (i : Int) ∧ Hid (i ≤ ln ∧ i ≤ 6 ∧ Bo W C wr ∧ TL W0.heap.size 10 i wr (.slice a n c))) (fun _ iv _ _ _ => ln + 1 - (intOf iv).toNat)
  case atStart => exact ⟨none, 0, 0, 0, rfl, rfl, Nat.zero_le _, Nat.zero_le _, HW0.out.1, TL.nil _ _ _ _⟩
  case round =>
    obtain ⟨a, n, c, i, rfl, rfl, HI⟩ := hrel
    have c0 : wr.cell? ⟨W.heap.size, 0, none⟩ = some (.slice on ln cn) := HI.out.2.2.1.cel (by rw [HC.out]; rfl)
    by_cases hi : i < ln ∧ i < 6
    · have hi1 : (i : Int) < (ln : Int) := by omega
      have hi6 : (i : Int) < 6 := by omega
      have hi0 : (0 : Int) ≤ (i : Int) := by omega
      obtain ⟨x, hx⟩ : ∃ x, nm[i]? = some x := ⟨_, List.getElem?_eq_getElem (by have := HL.out; omega)⟩
      obtain ⟨gx, ox, rfl, hcx⟩ := HS.out.nm.txt hx
      have HZ : Hid (x.size ≤ 1000000000000000000) := HS.out.nz x (List.mem_of_getElem? hx)
      have cx : wr.cell? ⟨gx, ox + i, none⟩ = some (.string x) := hcx _ HI.out.2.2.1.all
      have HX : Hid (i < ln ∧ i < 6) := hi
      have wi : IntKind.i64.wrap ((i : Int) + 1) = (i : Int) + 1 := by rw [IntKind.wrap_i64]; omega
      clear hi hx hcx
      go_wp2_with fail
      go_loopw [5, 6] (fun zv jv wr' => ∃ (z : Int) (j : Nat), zv = .int .i64 z ∧ jv = .int .i64 (j : Int) ∧ wr' = wr ∧ Hid (-9223372036854775808 ≤ z ∧ z ≤ 9223372036854775807 ∧ j ≤ x.size)) (fun _ jv _ => x.size + 1 - (intOf jv).toNat)
      case atStart => exact ⟨0, 0, rfl, rfl, rfl, by omega, by omega, Nat.zero_le _⟩
      case round =>
        obtain ⟨z, j, rfl, rfl, rfl, HJ⟩ := hrel
        by_cases hj : j < x.size
        · have hj1 : (j : Int) < (x.size : Int) := by omega
          have hj0 : (0 : Int) ≤ (j : Int) := by omega
          have wj : IntKind.i64.wrap ((j : Int) + 1) = (j : Int) + 1 := by rw [IntKind.wrap_i64]; have := HZ.out; omega
          go_wp2_with fail
          refine ⟨⟨_, j + 1, rfl, by go_num, trivial, ?_, ?_, by omega⟩, by simp [intOf]; omega⟩
          · unfold wrap64; omega
          · unfold wrap64; omega
        · have hj1 : ¬ ((j : Int) < (x.size : Int)) := by omega
          have HR : Hid (-9223372036854775808 ≤ z ∧ z ≤ 9223372036854775807) := ⟨HJ.out.1, HJ.out.2.1⟩
          clear hj
          go_wp2_with fail
          refine (word_any z HR.out.1 HR.out.2 wr).mono ?_
          rintro e W1 ⟨s, rfl, hs, m, hm⟩
          have b1 : Below wr.heap.size wr W1 := by rw [hm]; exact bel_dn wr m
          have q1 : ¬ (9223372036854775807 < 1 + s.size) := by omega
          have hbo := HI.out.2.2.1.below b1
          obtain ⟨a2, n2, c2, w2, r2, t2, f2⟩ := (HI.out.2.2.2.below b1).add (by have := hbo.bel.size; have := HW0.out.2; simp at *; omega) (by have := HX.out; omega) (⟨#[111]⟩ ++ s) (by rw [ByteArray.size_append]; show 1 + s.size ≤ 10; omega)
          have HE : Hid (i + 1 ≤ ln ∧ i + 1 ≤ 6 ∧ Bo W C w2 ∧ TL W0.heap.size 10 (i + 1) w2 (.slice a2 n2 c2)) := ⟨by have := HX.out; omega, by have := HX.out; omega, Bo.of (by have := f2 (W.alloc (.cells C 25)) (by rw [HW0.out.2]; exact hbo.bel) (by rw [HW0.out.2]; simp); rwa [HW0.out.2] at this), t2⟩
          clear hs hm b1 hbo t2 f2
          go_wp2_with fail
          go_roundw
          case rel => exact ⟨_, _, _, i + 1, rfl, by go_num, HE.out⟩
          case measure => have := HX.out.1; simp [intOf]; omega
    · have HT : Hid (Bo W C wr ∧ TL W0.heap.size 10 6 wr (.slice a n c)) := ⟨HI.out.2.2.1, HI.out.2.2.2.mono (Nat.le_refl _) (Nat.le_refl _) HI.out.2.1⟩
      have c1 : wr.cell? ⟨W.heap.size, 1, none⟩ = some (.int .i64 md) := HT.out.1.cel (by rw [HC.out]; rfl)
      obtain ⟨V, hV⟩ : ∃ V, wr.alloc (.cells #[.string ⟨#[111, 117, 116]⟩] 9) = V := ⟨_, rfl⟩
      have HV : Hid (Ls V (.slice (some ⟨wr.heap.size, 0, none⟩) 1 1) 1 (([⟨#[111, 117, 116]⟩] : List S).map sR) ∧ Bo W C V) := by
        rw [← hV]
        exact ⟨ls_one wr (sR ⟨#[111, 117, 116]⟩) 9 1 rfl (by simp [sR, Value.oneCell']), HT.out.1.below ((Below.refl _ wr).alloc (Nat.le_refl _) _)⟩
      have CA : Hid (Calls Tryd.prog 9 #[.slice a n c] wr fun e w' => ∃ a n c, e = .returned (.slice a n c) ∧ Hid (TL wr.heap.size 10 6 w' (.slice a n c) ∧ Below wr.heap.size wr w')) := (sortedT_any wr _ W0.heap.size 10 6 HT.out.2 (by omega)).mono fun e w' ⟨a, n, c, q, r⟩ => ⟨a, n, c, q, r⟩
      have CB : Hid (Calls Tryd.prog 9 #[.slice (some ⟨wr.heap.size, 0, none⟩) 1 1] V fun e w' => ∃ a n c, e = .returned (.slice a n c) ∧ Hid (TL V.heap.size 10 6 w' (.slice a n c) ∧ Below V.heap.size V w')) := (sortedL V _ [⟨#[111, 117, 116]⟩] 10 6 HV.out.1 (by simp) (by intro x hx; rw [List.mem_singleton.1 hx]; decide) (by omega)).mono fun e w' ⟨a, n, c, q, r⟩ => ⟨a, n, c, q, r⟩
      by_cases hi1 : (i : Int) < (ln : Int)
      · have hi6 : ¬ ((i : Int) < 6) := by omega
        clear hi
        go_upto_region 13 with fail
        all_goals (
          rename_i K2 h2
          have HK : Hid (∀ q w, Code.wp Tryd.prog (tlF Tryd.f7 14) (bodyPost Tryd.prog Tryd.f7 (OuP W)) q w → K2 q w) := h2
          clear h2
          go_wp2_with fail
          first
            | with_reducible refine Calls.mono CA.out ?_
              rintro e W3 ⟨a3, n3, c3, rfl, HR⟩
              go_wp2_with fail
              exact HK.out _ _ (outs14 W (.slice on ln cn) sv iv av kv nm md fl so ip ar ks tx sd C HS.out HC.out wr.heap.size W3 (HT.out.1.below HR.out.2) a3 n3 c3 HR.out.1)
            | with_reducible refine Calls.mono CB.out ?_
              rintro e W3 ⟨a3, n3, c3, rfl, HR⟩
              go_wp2_with fail
              exact HK.out _ _ (outs14 W (.slice on ln cn) sv iv av kv nm md fl so ip ar ks tx sd C HS.out HC.out V.heap.size W3 (HV.out.2.below HR.out.2) a3 n3 c3 HR.out.1))
      · clear hi
        go_upto_region 13 with fail
        all_goals (
          rename_i K2 h2
          have HK : Hid (∀ q w, Code.wp Tryd.prog (tlF Tryd.f7 14) (bodyPost Tryd.prog Tryd.f7 (OuP W)) q w → K2 q w) := h2
          clear h2
          go_wp2_with fail
          first
            | with_reducible refine Calls.mono CA.out ?_
              rintro e W3 ⟨a3, n3, c3, rfl, HR⟩
              go_wp2_with fail
              exact HK.out _ _ (outs14 W (.slice on ln cn) sv iv av kv nm md fl so ip ar ks tx sd C HS.out HC.out wr.heap.size W3 (HT.out.1.below HR.out.2) a3 n3 c3 HR.out.1)
            | with_reducible refine Calls.mono CB.out ?_
              rintro e W3 ⟨a3, n3, c3, rfl, HR⟩
              go_wp2_with fail
              exact HK.out _ _ (outs14 W (.slice on ln cn) sv iv av kv nm md fl so ip ar ks tx sd C HS.out HC.out V.heap.size W3 (HV.out.2.below HR.out.2) a3 n3 c3 HR.out.1))
end
end Go.Proofs.YtceclpabdfncoaaDoor.Re
