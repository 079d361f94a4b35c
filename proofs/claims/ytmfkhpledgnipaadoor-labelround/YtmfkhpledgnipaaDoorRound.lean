/- LabelRound's walk. -/
import Derived.Test.YtmfkhpledgnipaaDoorWorks
import Derived.Test.YtmfkhpledgnipaaDoorRight
namespace Go.Proofs.YtmfkhpledgnipaaDoor
open Go.RowKit
attribute [local go_sem ↓] to25s to25l to23l toEq
set_option maxRecDepth 100000 in
set_option maxHeartbeats 3200000 in
theorem round_any (h : List Nat) (hb : Byt h) (hl : h.length = 20) (nm : ByteArray) (w : World) (ht : Tx w) :
    Calls Tryd.prog 3 #[.agg (lab h nm)] w fun e w' => e = .returned (.bool true) ∧ Below w.heap.size w w' := by
  have bel0 : Below w.heap.size w (w.alloc (.cells (lab h nm) 25)) := (Below.refl _ w).alloc (Nat.le_refl _) _
  have l0 := run_loadR25 (w.alloc (.cells (lab h nm) 25)) w.heap.size h nm (heap_alloc_new _ _) hl
  have HT : Hid (∀ W, Below w.heap.size w W → Tx W) := fun W hW => ht.below hW ht.sz
  have CP := fun W (hW : Tx W) => printC_any h hb hl nm W hW
  have CB := fun W (hW : Tx W) => baseC_any h hb hl nm W hW
  have CR : Hid (∀ W, Calls Tryd.prog 9 #[.string nm] W fun e w' => e = .returned (.bool (decide (okN nm = 0))) ∧ w' = W) := fun W => right_any nm W
  have z0 : (w.alloc (.cells (lab h nm) 25)).heap.size = w.heap.size + 1 := by simp
  have HZ0 : Hid ((w.alloc (.cells (lab h nm) 25)).heap.size = w.heap.size + 1) := z0
  have HB0 : Hid (Below w.heap.size w (w.alloc (.cells (lab h nm) 25))) := bel0
  clear z0 bel0 ht
  by_cases hok : okN nm = 0
  · obtain ⟨p1, p2, p3⟩ := base_parts h hl nm
    obtain ⟨B, hB⟩ : ∃ B, B = baseS h nm := ⟨_, rfl⟩
    obtain ⟨S, hS⟩ : ∃ S, S = store ++ baseS h nm := ⟨_, rfl⟩
    obtain ⟨DG, hDG⟩ : ∃ D, D = str (b32L h) := ⟨_, rfl⟩
    obtain ⟨DN, hDN⟩ : ∃ D, D = minus ++ nm := ⟨_, rfl⟩
    have hns := okN_size nm hok
    have hBs : B.size = 33 + nm.size := by rw [hB]; exact baseS_size h nm hl
    have q1 : (⟨#[47, 103, 114, 97, 102, 116, 47, 115, 116, 111, 114, 101, 47]⟩ : ByteArray) ++ B = S := by rw [hS, hB]; rfl
    have q2 : (⟨#[45]⟩ : ByteArray) ++ nm = DN := by rw [hDN]; rfl
    have q3 : B.extract 0 32 = DG := by rw [hB, hDG]; exact p1
    have q4 : B.extract 32 B.size = DN := by
      rw [hB, hDN]
      unfold baseS
      rw [show str (b32L h) ++ minus ++ nm = str (b32L h) ++ (minus ++ nm) from ByteArray.append_assoc]
      exact ext_right _ _ 32 (by rw [str_size, b32L_len, hl]; decide)
    have q5 : ¬ (9223372036854775807 < 13 + B.size) := by omega
    have q6 : ¬ (9223372036854775807 < 1 + nm.size) := by omega
    have q7 : (B.size : Int) = 33 + (nm.size : Int) := by omega
    have q8 : (32 : Int) ≤ (B.size : Int) := by omega
    have q9 : IntKind.i64.wrap (33 + (nm.size : Int)) = 33 + (nm.size : Int) := by rw [IntKind.wrap_i64]; omega
    have P1 : Hid (∀ W, Tx W → Calls Tryd.prog 7 #[.agg (lab h nm)] W fun e w' => e = .returned (.tuple #[.string S, .int .i64 0]) ∧ Below W.heap.size W w') := fun W hW => by
      have := CP W hW
      unfold printV at this
      rw [if_pos hok, ← hS] at this
      exact this
    have P2 : Hid (∀ W, Tx W → Calls Tryd.prog 8 #[.agg (lab h nm)] W fun e w' => e = .returned (.tuple #[.string B, .int .i64 0]) ∧ Below W.heap.size W w') := fun W hW => by
      have := CB W hW
      unfold baseV at this
      rw [if_pos hok, ← hB] at this
      exact this
    have P3 : Hid (∀ W, Tx W → Calls Tryd.prog 12 #[.string S] W fun e w' => e = .returned (.tuple #[.agg (lab h nm), .int .i64 0, .int .i64 0]) ∧ Below W.heap.size W w') := fun W hW => by rw [hS]; exact parse_label h hb hl nm hok W hW
    have P4 : Hid (∀ W, Tx W → Calls Tryd.prog 13 #[.string B] W fun e w' => e = .returned (.tuple #[.agg (lab h nm), .int .i64 0, .int .i64 0]) ∧ Below W.heap.size W w') := fun W hW => by rw [hB]; exact pb_label h hb hl nm hok W hW
    have P5 : Hid (∀ W, Tx W → Calls Tryd.prog 11 #[.string DG] W fun e w' => ∃ g, e = .returned (.tuple #[.slice (some ⟨g, 0, none⟩) 20 20, .int .i64 0, .int .i64 0]) ∧ Below W.heap.size W w' ∧ W.heap.size ≤ g ∧ w'.heap[g]? = some (.cells (bs h) 5 (0, 0))) := fun W hW => by
      obtain ⟨u1, u2, u3⟩ := un_text h hb hl
      rw [hDG]
      refine (un_any (str (b32L h)) (by omega) W hW).mono ?_
      rintro e w' ⟨b, v, rfl, hif⟩
      rw [u1, if_pos rfl, u3, u2] at hif
      obtain ⟨g, rfl, hg, hrow⟩ := hif
      exact ⟨g, by rw [u1]; rfl, b, hg, hrow⟩
    have CR' : Hid (∀ W, Calls Tryd.prog 9 #[.string nm] W fun e w' => e = .returned (.bool true) ∧ w' = W) := fun W => by
      have := CR.out W
      rw [decide_eq_true hok] at this
      exact this
    clear CP CB CR hB hS hDG hDN p1 p2 p3 hBs hok hns
    go_enter Tryd.func3, Tryd.ntmps3
    go_wp2_with fail
    refine (P1.out _ (HT.out _ HB0.out)).mono ?_
    rintro e W1 ⟨rfl, b1⟩
    have R1 : W1.heap[w.heap.size]? = some (.cells (lab h nm) 25 (0, 0)) := (b1.block _ (by rw [HZ0.out]; omega)).trans (heap_alloc_new _ _)
    have bel1 : Below w.heap.size w W1 := HB0.out.trans (b1.mono (by rw [HZ0.out]; omega))
    have l1 := run_loadR25 W1 w.heap.size h nm R1 hl
    have HR1 : Hid (W1.heap[w.heap.size]? = some (.cells (lab h nm) 25 (0, 0))) := R1
    clear b1 l0 R1
    go_wp2_with fail
    refine (P2.out _ (HT.out _ bel1)).mono ?_
    rintro e W2 ⟨rfl, b2⟩
    have z1 : w.heap.size < W1.heap.size := (Array.getElem?_eq_some_iff.1 HR1.out).1
    have HR2 : Hid (W2.heap[w.heap.size]? = some (.cells (lab h nm) 25 (0, 0))) := (b2.block _ z1).trans HR1.out
    have bel2 : Below w.heap.size w W2 := bel1.trans (b2.mono (by omega))
    have c2 : W2.cell? ⟨w.heap.size, 20, none⟩ = some (.string nm) := by rw [cell_of_row _ _ _ _ _ _ HR2.out, lab_name h nm hl]
    clear b2 l1 HR1 bel1 z1
    go_wp2_with fail
    refine (CR'.out _).mono ?_
    rintro e w' ⟨rfl, hw'⟩
    have hw2 := hw'.symm
    subst hw2
    go_wp2_with fail
    go_quiet (fail)
    go_wp2_with fail
    have bel2d : Below w.heap.size w (W2.drewN nq) := Below.drewN' bel2 _
    have z2 : w.heap.size < W2.heap.size := (Array.getElem?_eq_some_iff.1 HR2.out).1
    refine (P5.out _ (HT.out _ bel2d)).mono ?_
    rintro e W3 ⟨g, rfl, b3, hg, hrow⟩
    have HR3 : Hid (W3.heap[w.heap.size]? = some (.cells (lab h nm) 25 (0, 0))) := (b3.block _ z2).trans HR2.out
    have HG3 : Hid (W3.heap[g]? = some (.cells (bs h) 5 (0, 0))) := hrow
    have bel3 : Below w.heap.size w W3 := bel2d.trans (b3.mono (by simp; omega))
    clear b3 hg hrow HR2 bel2 bel2d c2 z2
    go_wp2_with fail
    go_loopw [10] (fun i wr => ∃ k : Nat, i = .int .i64 (k : Int) ∧ k ≤ 20 ∧ Hid (wr.heap[w.heap.size]? = some (.cells (lab h nm) 25 (0, 0))) ∧ Hid (wr.heap[g]? = some (.cells (bs h) 5 (0, 0))) ∧ Below w.heap.size w wr) (fun i _ => 20 - (intOf i).toNat)
    case atStart => exact ⟨0, rfl, by omega, HR3, HG3, bel3⟩
    case round =>
      clear HR3 HG3 bel3
      obtain ⟨k, rfl, hk, HR, HG, bel⟩ := hrel
      by_cases hlt : k < 20
      · have hk0 : (0 : Int) ≤ (k : Int) := by omega
        have hk1 : (k : Int) < 20 := by omega
        obtain ⟨x, hx⟩ : ∃ x, x = h.getD k 0 := ⟨_, rfl⟩
        have cx : wr.cell? ⟨g, k, none⟩ = some (.int .u8 (x : Int)) := by rw [hx, cell_of_row wr _ _ _ _ _ HG.out, bs_get _ _ (by omega)]
        have cy : wr.cell? ⟨w.heap.size, k, none⟩ = some (.int .u8 (x : Int)) := by rw [hx, cell_of_row wr _ _ _ _ _ HR.out, lab_get h nm hl k hlt]
        clear hx
        go_wp2
        go_quiet (fail)
        go_wp2
        go_roundw
        case rel => exact ⟨k + 1, by go_num, by omega, HR, HG, Below.drewN' bel _⟩
        case measure => simp [intOf]; omega
      · have hk1 : ¬ ((k : Int) < 20) := by omega
        have hke : k = 20 := by omega
        subst hke
        have zr : w.heap.size < wr.heap.size := (Array.getElem?_eq_some_iff.1 HR.out).1
        go_wp2_with fail
        refine (P3.out _ (HT.out _ bel)).mono ?_
        rintro e W4 ⟨rfl, b4⟩
        have R4 : W4.heap[w.heap.size]? = some (.cells (lab h nm) 25 (0, 0)) := (b4.block _ zr).trans HR.out
        have bel4 : Below w.heap.size w W4 := bel.trans (b4.mono (by omega))
        have z4 : w.heap.size < W4.heap.size := (Array.getElem?_eq_some_iff.1 R4).1
        have s4 : (storeR 25 (.pointer (some ⟨W4.heap.size, 0, none⟩)) (.agg (lab h nm))).run Tryd.prog (W4.alloc (.cells #[.int .u8 0, .int .u8 0, .int .u8 0, .int .u8 0, .int .u8 0, .int .u8 0, .int .u8 0, .int .u8 0, .int .u8 0, .int .u8 0, .int .u8 0, .int .u8 0, .int .u8 0, .int .u8 0, .int .u8 0, .int .u8 0, .int .u8 0, .int .u8 0, .int .u8 0, .int .u8 0, .string ⟨#[]⟩] 25)) = .ok () ((W4.alloc (.cells none25 25)).setRow W4.heap.size (lab h nm)) := run_storeR25 (W4.alloc (.cells none25 25)) W4.heap.size z20 h ⟨#[]⟩ nm (heap_alloc_new _ _) rfl hl
        obtain ⟨W5, hW5⟩ : ∃ W, W = (W4.alloc (.cells none25 25)).setRow W4.heap.size (lab h nm) := ⟨_, rfl⟩
        have r5 : Hid (W5.heap[W4.heap.size]? = some (.cells (lab h nm) 25 (0, 0))) := by rw [hW5]; exact setRow_heap _ _ _ _ _ _ (heap_alloc_new _ _)
        have r5' : Hid (W5.heap[w.heap.size]? = some (.cells (lab h nm) 25 (0, 0))) := by rw [hW5]; exact (setRow_other _ _ _ _ (by omega)).trans ((heap_alloc_old _ _ (h := z4)).trans R4)
        have bel5 : Below w.heap.size w W5 := by rw [hW5]; exact below_setRow (bel4.alloc (by omega) _) (by omega) _
        rw [← hW5] at s4
        have z5 : W4.heap.size < W5.heap.size := (Array.getElem?_eq_some_iff.1 r5.out).1
        have Z4 : Hid (w.heap.size < W4.heap.size) := z4
        clear hW5 R4 b4 z4
        go_wp2_with fail
        refine (P4.out _ (HT.out _ bel5)).mono ?_
        rintro e W6 ⟨rfl, b6⟩
        have z4 := Z4.out
        have R6 : W6.heap[w.heap.size]? = some (.cells (lab h nm) 25 (0, 0)) := (b6.block _ (by omega)).trans r5'.out
        have R6' : W6.heap[W4.heap.size]? = some (.cells (lab h nm) 25 (0, 0)) := (b6.block _ z5).trans r5.out
        have bel6 : Below w.heap.size w W6 := bel5.trans (b6.mono (by omega))
        have z6 : W4.heap.size < W6.heap.size := (Array.getElem?_eq_some_iff.1 R6').1
        have s6 : (storeR 25 (.pointer (some ⟨W6.heap.size, 0, none⟩)) (.agg (lab h nm))).run Tryd.prog (W6.alloc (.cells #[.int .u8 0, .int .u8 0, .int .u8 0, .int .u8 0, .int .u8 0, .int .u8 0, .int .u8 0, .int .u8 0, .int .u8 0, .int .u8 0, .int .u8 0, .int .u8 0, .int .u8 0, .int .u8 0, .int .u8 0, .int .u8 0, .int .u8 0, .int .u8 0, .int .u8 0, .int .u8 0, .string ⟨#[]⟩] 25)) = .ok () ((W6.alloc (.cells none25 25)).setRow W6.heap.size (lab h nm)) := run_storeR25 (W6.alloc (.cells none25 25)) W6.heap.size z20 h ⟨#[]⟩ nm (heap_alloc_new _ _) rfl hl
        obtain ⟨W7, hW7⟩ : ∃ W, W = (W6.alloc (.cells none25 25)).setRow W6.heap.size (lab h nm) := ⟨_, rfl⟩
        have r7 : W7.heap[W6.heap.size]? = some (.cells (lab h nm) 25 (0, 0)) := by rw [hW7]; exact setRow_heap _ _ _ _ _ _ (heap_alloc_new _ _)
        have r7a : W7.heap[w.heap.size]? = some (.cells (lab h nm) 25 (0, 0)) := by rw [hW7]; exact (setRow_other _ _ _ _ (by omega)).trans ((heap_alloc_old _ _ (h := by omega)).trans R6)
        have r7b : W7.heap[W4.heap.size]? = some (.cells (lab h nm) 25 (0, 0)) := by rw [hW7]; exact (setRow_other _ _ _ _ (by omega)).trans ((heap_alloc_old _ _ (h := z6)).trans R6')
        have bel7 : Below w.heap.size w W7 := by rw [hW7]; exact below_setRow (bel6.alloc (by omega) _) (by omega) _
        rw [← hW7] at s6
        have l7 := run_loadR25 W7 W6.heap.size h nm r7 hl
        have l7a := run_loadR25 W7 w.heap.size h nm r7a hl
        have l7b := run_loadR25 W7 W4.heap.size h nm r7b hl
        have heq : (eqR (.agg (lab h nm)) (.agg (lab h nm))).run Tryd.prog W7 = .ok true W7 := by
          have := run_eqR W7 h h nm nm hl hl
          rw [decide_eq_true ⟨rfl, rfl⟩] at this
          exact this
        clear hW7 r7 r7a r7b R6 R6' b6 s4 z4 z6
        go_wp2_with fail
        go_ret
        exact ⟨rfl, bel7⟩
  · obtain ⟨E, hE⟩ : ∃ E, E = okN nm := ⟨_, rfl⟩
    have hE0 : ((E : Int) != 0) = true := by simp; omega
    have P1 : Hid (∀ W, Tx W → Calls Tryd.prog 7 #[.agg (lab h nm)] W fun e w' => e = .returned (.tuple #[.string ⟨#[]⟩, .int .i64 (E : Int)]) ∧ Below W.heap.size W w') := fun W hW => by
      have := CP W hW
      unfold printV at this
      rw [if_neg hok, ← hE] at this
      exact this
    have P2 : Hid (∀ W, Tx W → Calls Tryd.prog 8 #[.agg (lab h nm)] W fun e w' => e = .returned (.tuple #[.string ⟨#[]⟩, .int .i64 (E : Int)]) ∧ Below W.heap.size W w') := fun W hW => by
      have := CB W hW
      unfold baseV at this
      rw [if_neg hok, ← hE] at this
      exact this
    have CR' : Hid (∀ W, Calls Tryd.prog 9 #[.string nm] W fun e w' => e = .returned (.bool false) ∧ w' = W) := fun W => by
      have := CR.out W
      rw [decide_eq_false hok] at this
      exact this
    clear CP CB CR hok hE
    go_enter Tryd.func3, Tryd.ntmps3
    go_wp2_with fail
    refine (P1.out _ (HT.out _ HB0.out)).mono ?_
    rintro e W1 ⟨rfl, b1⟩
    have R1 : W1.heap[w.heap.size]? = some (.cells (lab h nm) 25 (0, 0)) := (b1.block _ (by rw [HZ0.out]; omega)).trans (heap_alloc_new _ _)
    have bel1 : Below w.heap.size w W1 := HB0.out.trans (b1.mono (by rw [HZ0.out]; omega))
    have l1 := run_loadR25 W1 w.heap.size h nm R1 hl
    have HR1 : Hid (W1.heap[w.heap.size]? = some (.cells (lab h nm) 25 (0, 0))) := R1
    clear b1 l0 R1
    go_wp2_with fail
    refine (P2.out _ (HT.out _ bel1)).mono ?_
    rintro e W2 ⟨rfl, b2⟩
    have z1 : w.heap.size < W1.heap.size := (Array.getElem?_eq_some_iff.1 HR1.out).1
    have HR2 : Hid (W2.heap[w.heap.size]? = some (.cells (lab h nm) 25 (0, 0))) := (b2.block _ z1).trans HR1.out
    have bel2 : Below w.heap.size w W2 := bel1.trans (b2.mono (by omega))
    have c2 : W2.cell? ⟨w.heap.size, 20, none⟩ = some (.string nm) := by rw [cell_of_row _ _ _ _ _ _ HR2.out, lab_name h nm hl]
    clear b2 l1 HR1 bel1 z1
    go_wp2_with fail
    refine (CR'.out _).mono ?_
    rintro e w' ⟨rfl, hw'⟩
    have hw2 := hw'.symm
    subst hw2
    go_wp2_with fail
    refine (works_any _ (HT.out _ bel2)).mono ?_
    rintro e W3 ⟨rfl, b3⟩
    have bel3 : Below w.heap.size w W3 := bel2.trans (b3.mono bel2.size)
    go_wp2_with fail
    go_ret
    exact ⟨rfl, bel3⟩
end Go.Proofs.YtmfkhpledgnipaaDoor
