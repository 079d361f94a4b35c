/- Several texts in one: ShWriteX, ShTook, ShParts. -/
import Derived.Test.YtceclpabdfncoaaDoorShJd
namespace Go.Proofs.YtceclpabdfncoaaDoor.Sha
open Go.RowKit
set_option maxRecDepth 100000 in
set_option maxHeartbeats 1000000 in
/-- A Write that fills the block, of a slice that ends there. -/
theorem write_fill_end (ks sn : List Nat) (hm : MixOK ks) (hsn : sn.length = 8) (g : Nat) (st rest : List Nat) (n : Nat) (hst : st.length = 8) (hrs : rest.length = 64) (hsw : Wrd st) (hrb : Byt rest) (d : List Nat) (hdb : Byt d) (hn : n + d.length ≤ 1152921504606846976) (hu : 0 < n % 64) (hul : 64 ≤ n % 64 + d.length)
    (b off cap : Nat) (hce : Hid (cap = 64 - n % 64)) (hcap : d.length ≤ cap) (w : World) (hbg : b ≠ g) (hbl : b < w.heap.size) (hg : g ≠ 4) (hg1 : 4 < w.heap.size) (hK : Hid (∀ j, j < 64 → w.cell? ⟨4, j, none⟩ = some (.int .u32 ((ks.getD j 0 : Nat) : Int))))
    (hS : Hid (∀ j, j < 8 → w.cell? ⟨3, j, none⟩ = some (.int .u32 ((sn.getD j 0 : Nat) : Int))))
    (hd : Hid (∀ j, j < d.length → w.cell? ⟨b, off + j, none⟩ = some (.int .u8 ((d.getD j 0 : Nat) : Int)))) (hh : Hid (w.heap[g]? = some (.cells (hs st rest n) 99 (0, 0)))) :
    Calls Tryd.prog 40 #[.pointer (some ⟨g, 0, none⟩), .slice (some ⟨b, off, none⟩) d.length cap] w fun e w' => e = .returned (.int .i64 0) ∧
      Hid (w'.heap[g]? = some (.cells (hs (absN ks (mixN ks st (rest.take (n % 64) ++ d.take (64 - n % 64))) (d.drop (64 - n % 64)) ((d.drop (64 - n % 64)).length / 64)) ((d.drop (64 - n % 64)).drop (64 * ((d.drop (64 - n % 64)).length / 64)) ++ (rest.take (n % 64) ++ d.take (64 - n % 64)).drop ((d.drop (64 - n % 64)).length % 64)) (n + d.length)) 99 (0, 0))) ∧ Touch g w w' := by
  have cn : w.cell? ⟨g, 72, none⟩ = some (.int .i64 (n : Int)) := by rw [cell_of_row w _ _ _ _ _ hh.out, hs_len _ _ _ hst hrs]
  have hn1 : (n : Int) + (d.length : Int) ≤ 1152921504606846976 := by omega
  have hn2 : ¬ (1152921504606846976 - (n : Int) < (d.length : Int)) := by omega
  have hbeg : begS sn st n = st := by unfold begS; rw [if_neg (by intro h; rw [h] at hu; exact absurd hu (by decide))]
  go_enter Tryd.func40, Tryd.ntmps40
  go_wp2_with fail
  refine (begin_any g sn st rest n hsn hst hrs w hS hh).mono ?_
  rintro e W1 ⟨rfl, row1, tch1⟩
  rw [hbeg] at row1
  clear hbeg
  have cn1 : W1.cell? ⟨g, 72, none⟩ = some (.int .i64 (n : Int)) := by rw [cell_of_row W1 _ _ _ _ _ row1.out, hs_len _ _ _ hst hrs]
  have fz1 : ∀ i, W1.frozen? ⟨g, i, none⟩ = false := fun i => frozen_of_row W1 _ i _ _ row1.out
  obtain ⟨W2, hW2⟩ : ∃ W2, W2 = W1.setCell ⟨g, 72, none⟩ (Value.int IntKind.i64 ((n : Int) + (d.length : Int))) := ⟨_, rfl⟩
  have row2 : Hid (W2.heap[g]? = some (.cells (hs st rest (n + d.length)) 99 (0, 0))) := by rw [hW2]; exact (heap_setCell_same _ _ _ _ _ _ row1.out).trans (by rw [show ((n : Int) + (d.length : Int)) = ((n + d.length : Nat) : Int) by omega, hs_set_len _ _ _ _ hst hrs])
  have tch2 : Touch g w W2 := by rw [hW2]; exact tch1.setCell _
  have hdt : (d.take (64 - n % 64)).length = 64 - n % 64 := by rw [List.length_take]; omega
  obtain ⟨W3, hcp, row3, tch3⟩ := run_copy_rest W2 3 g b off d.length cap (n % 64) st rest (d.take (64 - n % 64)) (n + d.length) hst hrs (by rw [hdt]; exact (Nat.min_eq_right (by omega)).symm) (by omega) row2.out (fun j hj => by
    rw [hdt] at hj
    have e : (d.take (64 - n % 64)).getD j 0 = d.getD j 0 := by simp only [List.getD_eq_getElem?_getD, List.getElem?_take]; rw [if_pos hj]
    rw [e]
    exact (World.cell?_of_block (w := w) (tch2.block b hbl hbg)).trans (hd.out _ (by omega)))
  rw [hW2, hdt] at hcp
  have e3 : rest.take (n % 64) ++ d.take (64 - n % 64) ++ rest.drop (n % 64 + (d.take (64 - n % 64)).length) = rest.take (n % 64) ++ d.take (64 - n % 64) := by
    rw [hdt, List.drop_eq_nil_of_le (by omega), List.append_nil]
  rw [e3] at row3
  obtain ⟨r1, hr1⟩ : ∃ r, r = rest.take (n % 64) ++ d.take (64 - n % 64) := ⟨_, rfl⟩
  rw [← hr1] at row3
  have hr1l : r1.length = 64 := by rw [hr1, List.length_append, hdt, List.length_take, hrs]; omega
  have hr1b : Byt r1 := by
    rw [hr1]; intro x hx
    rcases List.mem_append.1 hx with h | h
    · exact hrb x (List.mem_of_mem_take h)
    · exact hdb x (List.mem_of_mem_take h)
  have HR1 : Hid (r1 = rest.take (n % 64) ++ d.take (64 - n % 64)) := hr1
  have ROW3 : Hid (W3.heap[g]? = some (.cells (hs st r1 (n + d.length)) 99 (0, 0))) := row3
  have TCH : Touch g w W3 := tch2.trans tch3
  clear row3 tch3 row2 tch2 hW2 W2 hr1 e3 hdt
  obtain ⟨s0, s1, s2, s3, s4, s5, s6, s7, rfl⟩ := eight st hst
  obtain ⟨m0, m1, m2, m3, m4, m5, m6, m7, hmx⟩ := eight (mixN ks [s0, s1, s2, s3, s4, s5, s6, s7] r1) rfl
  have HM : Hid (mixN ks [s0, s1, s2, s3, s4, s5, s6, s7] r1 = [m0, m1, m2, m3, m4, m5, m6, m7]) := hmx
  have hmw : Wrd [m0, m1, m2, m3, m4, m5, m6, m7] := by rw [← hmx]; exact mixN_wrd _ _ _
  clear hmx
  have c0 : W3.cell? ⟨g, 0, none⟩ = some (.int .u32 (s0 : Int)) := by rw [cell_of_row W3 _ _ _ _ _ ROW3.out, hs_state _ _ _ rfl 0 (by decide)]; rfl
  have c1 : W3.cell? ⟨g, 1, none⟩ = some (.int .u32 (s1 : Int)) := by rw [cell_of_row W3 _ _ _ _ _ ROW3.out, hs_state _ _ _ rfl 1 (by decide)]; rfl
  have c2 : W3.cell? ⟨g, 2, none⟩ = some (.int .u32 (s2 : Int)) := by rw [cell_of_row W3 _ _ _ _ _ ROW3.out, hs_state _ _ _ rfl 2 (by decide)]; rfl
  have c3 : W3.cell? ⟨g, 3, none⟩ = some (.int .u32 (s3 : Int)) := by rw [cell_of_row W3 _ _ _ _ _ ROW3.out, hs_state _ _ _ rfl 3 (by decide)]; rfl
  have c4 : W3.cell? ⟨g, 4, none⟩ = some (.int .u32 (s4 : Int)) := by rw [cell_of_row W3 _ _ _ _ _ ROW3.out, hs_state _ _ _ rfl 4 (by decide)]; rfl
  have c5 : W3.cell? ⟨g, 5, none⟩ = some (.int .u32 (s5 : Int)) := by rw [cell_of_row W3 _ _ _ _ _ ROW3.out, hs_state _ _ _ rfl 5 (by decide)]; rfl
  have c6 : W3.cell? ⟨g, 6, none⟩ = some (.int .u32 (s6 : Int)) := by rw [cell_of_row W3 _ _ _ _ _ ROW3.out, hs_state _ _ _ rfl 6 (by decide)]; rfl
  have c7 : W3.cell? ⟨g, 7, none⟩ = some (.int .u32 (s7 : Int)) := by rw [cell_of_row W3 _ _ _ _ _ ROW3.out, hs_state _ _ _ rfl 7 (by decide)]; rfl
  have fz3 : ∀ i, W3.frozen? ⟨g, i, none⟩ = false := fun i => frozen_of_row W3 _ i _ _ ROW3.out
  have hgr : g < W3.heap.size := (Array.getElem?_eq_some_iff.1 ROW3.out).1
  have hmix := hm [s0, s1, s2, s3, s4, s5, s6, s7] r1 rfl hsw hr1b g 8 64 (by decide) (by unfold maxLen; decide) W3.drew hgr (Nat.lt_of_lt_of_le hg1 TCH.size)
    (fun j hj => by show W3.cell? _ = _; rw [cell_of_row W3 _ _ _ _ _ ROW3.out, hs_rest _ _ _ rfl hr1l j hj])
    (fun j hj => (World.cell?_of_block (w := w) (TCH.block 4 hg1 (Ne.symm hg))).trans (hK.out j hj))
  have HC0 : Hid (Calls Tryd.prog 58 #[.agg (ws [s0, s1, s2, s3, s4, s5, s6, s7]), .slice (some ⟨g, 8, none⟩) 64 64] W3.drew fun e w' => e = .returned (.agg #[Value.int IntKind.u32 (m0 : Int), Value.int IntKind.u32 (m1 : Int), Value.int IntKind.u32 (m2 : Int), Value.int IntKind.u32 (m3 : Int), Value.int IntKind.u32 (m4 : Int), Value.int IntKind.u32 (m5 : Int), Value.int IntKind.u32 (m6 : Int), Value.int IntKind.u32 (m7 : Int)]) ∧ Below W3.drew.heap.size W3.drew w') := by rw [HM.out] at hmix; exact hmix
  clear hmix
  have hal : Tryd.prog.arrayLen 97 = 64 := by kernel_rfl
  have hu0 : (0 : Int) < (n : Int) % 64 := by omega
  have hu00 : (0 : Int) ≤ (n : Int) % 64 := by omega
  have hu1 : (n : Int) % 64 ≤ 64 := by omega
  have hu2 : ((n : Int) % 64).toNat = n % 64 := by omega
  have hu3 : ¬ (64 = n % 64) := by omega
  have hu5 : ((64 - n % 64 : Nat) : Int) = 64 - (n : Int) % 64 := by omega
  go_wp2_with fail
  go_region_with ((go_at_call 58; refine HC0.out.mono ?_; rintro e w' ⟨rfl, hb'⟩; have cc : ∀ j, w'.cell? ⟨g, j, none⟩ = W3.cell? ⟨g, j, none⟩ := (fun j => hb'.cell (p := ⟨g, j, none⟩) hgr); have ff : ∀ j, w'.frozen? ⟨g, j, none⟩ = W3.frozen? ⟨g, j, none⟩ := (fun j => hb'.frozen (p := ⟨g, j, none⟩) hgr)))
  have row5 : Hid (((((((((w'.setCell ⟨g, 0, none⟩ (Value.int IntKind.u32 (m0 : Int))).setCell ⟨g, 1, none⟩ (Value.int IntKind.u32 (m1 : Int))).setCell ⟨g, 2, none⟩ (Value.int IntKind.u32 (m2 : Int))).setCell ⟨g, 3, none⟩ (Value.int IntKind.u32 (m3 : Int))).setCell ⟨g, 4, none⟩ (Value.int IntKind.u32 (m4 : Int))).setCell ⟨g, 5, none⟩ (Value.int IntKind.u32 (m5 : Int))).setCell ⟨g, 6, none⟩ (Value.int IntKind.u32 (m6 : Int))).setCell ⟨g, 7, none⟩ (Value.int IntKind.u32 (m7 : Int))).heap[g]? = some (.cells (hs [m0, m1, m2, m3, m4, m5, m6, m7] r1 (n + d.length)) 99 (0, 0))) := hs_row8 w' g _ r1 (n + d.length) rfl m0 m1 m2 m3 m4 m5 m6 m7 ((hb'.block g hgr).trans ROW3.out)
  have tch5 : Touch g w ((((((((w'.setCell ⟨g, 0, none⟩ (Value.int IntKind.u32 (m0 : Int))).setCell ⟨g, 1, none⟩ (Value.int IntKind.u32 (m1 : Int))).setCell ⟨g, 2, none⟩ (Value.int IntKind.u32 (m2 : Int))).setCell ⟨g, 3, none⟩ (Value.int IntKind.u32 (m3 : Int))).setCell ⟨g, 4, none⟩ (Value.int IntKind.u32 (m4 : Int))).setCell ⟨g, 5, none⟩ (Value.int IntKind.u32 (m5 : Int))).setCell ⟨g, 6, none⟩ (Value.int IntKind.u32 (m6 : Int))).setCell ⟨g, 7, none⟩ (Value.int IntKind.u32 (m7 : Int))) := (TCH.drew.trans (Touch.of_below hb')).trans (touch8 w' g _ _ _ _ _ _ _ _)
  revert row5 tch5
  generalize ((((((((w'.setCell ⟨g, 0, none⟩ (Value.int IntKind.u32 (m0 : Int))).setCell ⟨g, 1, none⟩ (Value.int IntKind.u32 (m1 : Int))).setCell ⟨g, 2, none⟩ (Value.int IntKind.u32 (m2 : Int))).setCell ⟨g, 3, none⟩ (Value.int IntKind.u32 (m3 : Int))).setCell ⟨g, 4, none⟩ (Value.int IntKind.u32 (m4 : Int))).setCell ⟨g, 5, none⟩ (Value.int IntKind.u32 (m5 : Int))).setCell ⟨g, 6, none⟩ (Value.int IntKind.u32 (m6 : Int))).setCell ⟨g, 7, none⟩ (Value.int IntKind.u32 (m7 : Int))) = W5
  intro row5 tch5
  clear c0 c1 c2 c3 c4 c5 c6 c7 fz3 cc ff hb' HC0 hcp cn1 fz1 row1 tch1 ROW3 TCH hgr cn
  have hc0 : (0 : Int) ≤ 64 - (n : Int) % 64 := by omega
  have hc1 : (64 : Int) - (n : Int) % 64 ≤ (d.length : Int) := by omega
  have hc2 : ((64 : Int) - (n : Int) % 64).toNat = 64 - n % 64 := by omega
  have hce1 : 64 - n % 64 = cap := hce.out.symm
  go_wp2_with fail
  obtain ⟨d', hd1'⟩ : ∃ x, x = d.drop (64 - n % 64) := ⟨_, rfl⟩
  have hd1 : Hid (d' = d.drop (64 - n % 64)) := hd1'
  have dl : d'.length = d.length - (64 - n % 64) := by rw [hd1', List.length_drop]
  have hdb' : Byt d' := by rw [hd1']; exact fun x hx => hdb x (List.mem_of_mem_drop hx)
  obtain ⟨off', ho1⟩ : ∃ x, x = off := ⟨_, rfl⟩
  obtain ⟨cap', hcp1⟩ : ∃ x, x = cap - (64 - n % 64) := ⟨_, rfl⟩
  obtain ⟨n', hn3⟩ : ∃ x, x = n + (64 - n % 64) := ⟨_, rfl⟩
  have hd' : Hid (∀ j, j < d'.length → w.cell? ⟨b, off' + j, none⟩ = some (.int .u8 ((d'.getD j 0 : Nat) : Int))) := by
    intro j hj
    omega
  have hN : Hid (n' + d'.length = n + d.length) := (by omega : n' + d'.length = n + d.length)
  have hbg5 : begS sn [m0, m1, m2, m3, m4, m5, m6, m7] n' = [m0, m1, m2, m3, m4, m5, m6, m7] := by unfold begS; rw [if_neg (by omega)]
  have bl : (begS sn [m0, m1, m2, m3, m4, m5, m6, m7] n').length = 8 := by rw [hbg5]; rfl
  have bw : Wrd (begS sn [m0, m1, m2, m3, m4, m5, m6, m7] n') := by rw [hbg5]; exact hmw
  have hcap' : d'.length ≤ cap' := by omega
  have hmax' : cap' ≤ 2 ^ 63 - 1 := by omega
  have HZ : Hid (d'.length = 0 ∧ cap' = 0 ∧ off' = off) := ⟨by omega, by omega, ho1⟩
  rw [← hN.out] at row5
  have HBG : Hid (begS sn [m0, m1, m2, m3, m4, m5, m6, m7] n' = [m0, m1, m2, m3, m4, m5, m6, m7]) := hbg5
  have row6 : Hid (W5.heap[g]? = some (.cells (hs (begS sn [m0, m1, m2, m3, m4, m5, m6, m7] n') r1 (n' + d'.length)) 99 (0, 0))) := by rw [hbg5]; exact row5
  clear hce1 dl ho1 hcp1 hn3 hd1' hbg5 hcap hc0 hc1 hc2 hn hn1 hn2 hul row5
  go_loopw [1] (fun v wr => WI ks sn [m0, m1, m2, m3, m4, m5, m6, m7] r1 d' n' g b off' cap' w v wr) (fun v _ => slLen v)
  case atStart => exact ⟨0, off', _, by omega, by rw [HZ.out.1, HZ.out.2.1, HZ.out.2.2], fun _ => rfl, rfl, row6, tch5⟩
  case round =>
    clear row6 tch5
    obtain ⟨k, o, s, hk, rfl, ho, Hs, HQ, tch⟩ := hrel
    obtain ⟨L, hL⟩ : ∃ L, L = d'.length - 64 * k := ⟨_, rfl⟩
    obtain ⟨C, hC⟩ : ∃ C, C = cap' - 64 * k := ⟨_, rfl⟩
    rw [← hL, ← hC]
    have HL : Hid (L = d'.length - 64 * k) := hL
    have HCC : Hid (C = cap' - 64 * k) := hC
    have hLC : L ≤ C := by omega
    have hLC' : (L : Int) ≤ (C : Int) := by omega
    have hCm : C ≤ 2 ^ 63 - 1 := by omega
    clear hL hC
    have hsl : s.length = 8 := by rw [Hs.out]; exact absN_len _ _ _ bl k
    have hsw2 : Wrd s := by rw [Hs.out]; exact absN_wrd _ _ _ bw k
    have fz : ∀ i, wr.frozen? ⟨g, i, none⟩ = false := fun i => frozen_of_row wr _ i _ _ HQ.out
    by_cases hge : 64 ≤ L
    · have hge' : (64 : Int) ≤ (L : Int) := by omega
      have hgeC : (64 : Int) ≤ (C : Int) := by omega
      have hoo : o = off' + 64 * k := ho.out (by have := HL.out; omega)
      obtain ⟨blk, hblk⟩ : ∃ x, x = (d'.drop (64 * k)).take 64 := ⟨_, rfl⟩
      have hbb : Byt blk := by rw [hblk]; exact fun x hx => hdb' x (List.mem_of_mem_drop (List.mem_of_mem_take hx))
      have hbc : Hid (∀ j, j < 64 → wr.drew.cell? ⟨b, o + j, none⟩ = some (.int .u8 ((blk.getD j 0 : Nat) : Int))) := by
        intro j hj
        have e : blk.getD j 0 = d'.getD (64 * k + j) 0 := by
          rw [hblk]
          simp only [List.getD_eq_getElem?_getD, List.getElem?_take, List.getElem?_drop]
          rw [if_pos hj]
        rw [e, hoo, Nat.add_assoc]
        exact (World.cell?_of_block (w := w) (tch.block b hbl hbg)).trans (hd'.out _ (by have := HL.out; omega))
      have HB : Hid (blk = (d'.drop (64 * k)).take 64) := hblk
      clear hblk hoo
      obtain ⟨z0, z1, z2, z3, z4, z5, z6, z7, rfl⟩ := eight s hsl
      obtain ⟨p0, p1, p2, p3, p4, p5, p6, p7, hmx⟩ := eight (mixN ks [z0, z1, z2, z3, z4, z5, z6, z7] blk) rfl
      have HM2 : Hid (mixN ks [z0, z1, z2, z3, z4, z5, z6, z7] blk = [p0, p1, p2, p3, p4, p5, p6, p7]) := hmx
      clear hmx
      have c0 : wr.cell? ⟨g, 0, none⟩ = some (.int .u32 (z0 : Int)) := by rw [cell_of_row wr _ _ _ _ _ HQ.out, hs_state _ _ _ rfl 0 (by decide)]; rfl
      have c1 : wr.cell? ⟨g, 1, none⟩ = some (.int .u32 (z1 : Int)) := by rw [cell_of_row wr _ _ _ _ _ HQ.out, hs_state _ _ _ rfl 1 (by decide)]; rfl
      have c2 : wr.cell? ⟨g, 2, none⟩ = some (.int .u32 (z2 : Int)) := by rw [cell_of_row wr _ _ _ _ _ HQ.out, hs_state _ _ _ rfl 2 (by decide)]; rfl
      have c3 : wr.cell? ⟨g, 3, none⟩ = some (.int .u32 (z3 : Int)) := by rw [cell_of_row wr _ _ _ _ _ HQ.out, hs_state _ _ _ rfl 3 (by decide)]; rfl
      have c4 : wr.cell? ⟨g, 4, none⟩ = some (.int .u32 (z4 : Int)) := by rw [cell_of_row wr _ _ _ _ _ HQ.out, hs_state _ _ _ rfl 4 (by decide)]; rfl
      have c5 : wr.cell? ⟨g, 5, none⟩ = some (.int .u32 (z5 : Int)) := by rw [cell_of_row wr _ _ _ _ _ HQ.out, hs_state _ _ _ rfl 5 (by decide)]; rfl
      have c6 : wr.cell? ⟨g, 6, none⟩ = some (.int .u32 (z6 : Int)) := by rw [cell_of_row wr _ _ _ _ _ HQ.out, hs_state _ _ _ rfl 6 (by decide)]; rfl
      have c7 : wr.cell? ⟨g, 7, none⟩ = some (.int .u32 (z7 : Int)) := by rw [cell_of_row wr _ _ _ _ _ HQ.out, hs_state _ _ _ rfl 7 (by decide)]; rfl
      have hgr : g < wr.heap.size := (Array.getElem?_eq_some_iff.1 HQ.out).1
      have hmix := hm [z0, z1, z2, z3, z4, z5, z6, z7] blk rfl hsw2 hbb b o C (by omega) (by unfold maxLen; omega) wr.drew (Nat.lt_of_lt_of_le hbl tch.size) (Nat.lt_of_lt_of_le hg1 tch.size) hbc
        (fun j hj => (World.cell?_of_block (w := w) (tch.block 4 hg1 (Ne.symm hg))).trans (hK.out j hj))
      have HC : Hid (Calls Tryd.prog 58 #[.agg (ws [z0, z1, z2, z3, z4, z5, z6, z7]), .slice (some ⟨b, o, none⟩) 64 C] wr.drew fun e w' => e = .returned (.agg #[Value.int IntKind.u32 (p0 : Int), Value.int IntKind.u32 (p1 : Int), Value.int IntKind.u32 (p2 : Int), Value.int IntKind.u32 (p3 : Int), Value.int IntKind.u32 (p4 : Int), Value.int IntKind.u32 (p5 : Int), Value.int IntKind.u32 (p6 : Int), Value.int IntKind.u32 (p7 : Int)]) ∧ Below wr.drew.heap.size wr.drew w') := by rw [HM2.out] at hmix; exact hmix
      clear hmix
      go_wp2
      go_region_with ((go_at_call 58; refine HC.out.mono ?_; rintro e w' ⟨rfl, hb'⟩; have cc : ∀ j, w'.cell? ⟨g, j, none⟩ = wr.cell? ⟨g, j, none⟩ := (fun j => hb'.cell (p := ⟨g, j, none⟩) hgr); have ff : ∀ j, w'.frozen? ⟨g, j, none⟩ = wr.frozen? ⟨g, j, none⟩ := (fun j => hb'.frozen (p := ⟨g, j, none⟩) hgr)))
      all_goals go_wp2
      all_goals go_roundw
      all_goals first
        | (simp [slLen]; omega)
        | skip
      all_goals
        have row9 := hs_row8 w' g _ r1 (n' + d'.length) rfl p0 p1 p2 p3 p4 p5 p6 p7 ((hb'.block g hgr).trans HQ.out)
        have tch9 := (tch.drew.trans (Touch.of_below hb')).trans (touch8 w' g (.int .u32 (p0 : Int)) (.int .u32 (p1 : Int)) (.int .u32 (p2 : Int)) (.int .u32 (p3 : Int)) (.int .u32 (p4 : Int)) (.int .u32 (p5 : Int)) (.int .u32 (p6 : Int)) (.int .u32 (p7 : Int)))
        have hL := HL.out
        have hC := HCC.out
        have ha : [p0, p1, p2, p3, p4, p5, p6, p7] = absN ks (begS sn [m0, m1, m2, m3, m4, m5, m6, m7] n') d' (k + 1) := by rw [absN, ← Hs.out, ← HB.out, HM2.out]
        have e1 : L - 64 = d'.length - 64 * (k + 1) := by omega
        have e2 : C - 64 = cap' - 64 * (k + 1) := by omega
        have ho' := ho.out (by omega)
        by_cases hC64 : C = 64
        · exact ⟨k + 1, o, _, by omega, by rw [if_pos hC64, e1, e2], fun h => by omega, ha, row9, tch9⟩
        · exact ⟨k + 1, o + 64, _, by omega, by rw [if_neg hC64, e1, e2], fun _ => by omega, ha, row9, tch9⟩
    · have hL := HL.out
      have hkd : k = d'.length / 64 := by omega
      have hLm : L = d'.length % 64 := by omega
      obtain ⟨W9, hcp, row9, tch9⟩ : ∃ W9, (∀ ty, (Builtin.copy_ #[23, 23] ty #[.slice (some ⟨g, 8, none⟩) 64 64, .slice (some ⟨b, o, none⟩) L C]).run Tryd.prog wr = .ok (goInt L) W9) ∧ Hid (W9.heap[g]? = some (.cells (hs s (d'.drop (64 * (d'.length / 64)) ++ r1.drop (d'.length % 64)) (n' + d'.length)) 99 (0, 0))) ∧ Touch g w W9 := by
        have hlen : ((d'.drop (64 * k)).map fun (x : Nat) => Value.int .u8 (x : Int)).length = L := by rw [List.length_map, List.length_drop, hL]
        have hc := run_copy_row (P := Tryd.prog) wr 23 23 3 5 g 8 64 64 ⟨b, o, none⟩ L C _ 99 ((d'.drop (64 * k)).map fun (x : Nat) => Value.int .u8 (x : Int)) Tryd.underlying23 size5 HQ.out (by rw [hlen]; exact (Nat.min_eq_left (by omega)).symm) (fun j v hj => ?_) (by rw [hlen, hs_size _ _ _ hsl hr1l]; omega) (fun v hv => by obtain ⟨x, _, rfl⟩ := List.mem_map.1 hv; rfl)
        · rw [hlen] at hc
          refine ⟨_, fun ty => hc, ?_, tch.setRow _⟩
          have e := hs_copy s r1 (d'.drop (64 * k)) (n' + d'.length) hsl hr1l (by rw [List.length_drop]; omega)
          rw [show (d'.drop (64 * k)).length = L by rw [List.length_drop, hL]] at e
          have := setRow_heap wr g _ ((hs s r1 (n' + d'.length)).toList.take 8 ++ ((d'.drop (64 * k)).map fun (x : Nat) => Value.int .u8 (x : Int)) ++ (hs s r1 (n' + d'.length)).toList.drop (8 + L)).toArray _ _ HQ.out
          rw [e] at this
          rw [e, ← hkd, ← hLm]
          exact this
        · have hj2 : j < L := by rw [← hlen]; exact (List.getElem?_eq_some_iff.1 hj).1
          have ho' := ho.out (by omega)
          have ev : v = Value.int .u8 ((d'.getD (64 * k + j) 0 : Nat) : Int) := by
            simp only [List.getElem?_map, List.getElem?_drop] at hj
            have hlt : 64 * k + j < d'.length := by omega
            rw [List.getElem?_eq_getElem hlt] at hj
            simp only [Option.map_some, Option.some.injEq] at hj
            rw [← hj]
            simp [List.getD, hlt]
          rw [ev, Addr.add_mid, ho', Nat.add_assoc]
          exact (World.cell?_of_block (w := w) (tch.block b hbl hbg)).trans (hd'.out _ (by omega))
      have HKD : Hid (k = d'.length / 64) := hkd
      clear ho hL hkd hLm
      go_wp2
      go_ret
      refine ⟨rfl, ?_, tch9⟩
      rw [HKD.out] at Hs
      rw [← HR1.out, ← hd1.out, HM.out]
      rw [HBG.out] at Hs
      rw [← Hs.out, ← hN.out]
      exact row9
end Go.Proofs.YtceclpabdfncoaaDoor.Sha

namespace Go.Proofs.YtceclpabdfncoaaDoor.Sha
open Go.RowKit
set_option maxRecDepth 100000 in
set_option maxHeartbeats 1000000 in
/-- A Write of nothing. -/
theorem write_nil (sn : List Nat) (hsn : sn.length = 8) (g : Nat) (st rest : List Nat) (n : Nat) (hst : st.length = 8) (hrs : rest.length = 64) (hn : n ≤ 1152921504606846976) (w : World)
    (hS : Hid (∀ j, j < 8 → w.cell? ⟨3, j, none⟩ = some (.int .u32 ((sn.getD j 0 : Nat) : Int)))) (hh : Hid (w.heap[g]? = some (.cells (hs st rest n) 99 (0, 0)))) :
    Calls Tryd.prog 40 #[.pointer (some ⟨g, 0, none⟩), .slice none 0 0] w fun e w' => e = .returned (.int .i64 0) ∧
      Hid (w'.heap[g]? = some (.cells (hs (begS sn st n) rest n) 99 (0, 0))) ∧ Touch g w w' := by
  have cn : w.cell? ⟨g, 72, none⟩ = some (.int .i64 (n : Int)) := by rw [cell_of_row w _ _ _ _ _ hh.out, hs_len _ _ _ hst hrs]
  have hn2 : ¬ (1152921504606846976 - (n : Int) < 0) := by omega
  have bl : (begS sn st n).length = 8 := by unfold begS; split <;> assumption
  go_enter Tryd.func40, Tryd.ntmps40
  go_wp2_with fail
  refine (begin_any g sn st rest n hsn hst hrs w hS hh).mono ?_
  rintro e W1 ⟨rfl, row1, tch1⟩
  have cn1 : W1.cell? ⟨g, 72, none⟩ = some (.int .i64 (n : Int)) := by rw [cell_of_row W1 _ _ _ _ _ row1.out, hs_len _ _ _ bl hrs]
  have fz1 : ∀ i, W1.frozen? ⟨g, i, none⟩ = false := fun i => frozen_of_row W1 _ i _ _ row1.out
  have hal : Tryd.prog.arrayLen 97 = 64 := by kernel_rfl
  have hu00 : (0 : Int) ≤ (n : Int) % 64 := by omega
  have hu1 : (n : Int) % 64 ≤ 64 := by omega
  have hu2 : ((n : Int) % 64).toNat = n % 64 := by omega
  have hu3 : ¬ (64 = n % 64) := by omega
  have row2 : Hid ((W1.setCell ⟨g, 72, none⟩ (Value.int IntKind.i64 (n : Int))).heap[g]? = some (.cells (hs (begS sn st n) rest n) 99 (0, 0))) := (heap_setCell_same _ _ _ _ _ _ row1.out).trans (by rw [hs_set_len _ _ _ _ bl hrs])
  have tch2 : Touch g w (W1.setCell ⟨g, 72, none⟩ (Value.int IntKind.i64 (n : Int))) := tch1.setCell _
  have hcn := fun (w : World) (o m c ty : Nat) => run_copy_nil (P := Tryd.prog) w 23 23 ty 5 ⟨g, o, none⟩ m c Tryd.underlying23 (by kernel_rfl)
  by_cases hu : n % 64 = 0
  · have hu' : (n : Int) % 64 = 0 := by omega
    go_wp2
    revert row2 tch2
    generalize W1.setCell ⟨g, 72, none⟩ (Value.int IntKind.i64 (n : Int)) = W2
    intro row2 tch2
    go_loopw [1] (fun v wr => v = .slice none 0 0 ∧ wr = W2) (fun _ _ => 0)
    case atStart => exact ⟨rfl, rfl⟩
    case round =>
      obtain ⟨rfl, rfl⟩ := hrel
      go_wp2
      go_ret
      exact ⟨rfl, row2, tch2⟩
  · have hu' : 0 < (n : Int) % 64 := by omega
    have hu4 : (n : Int) % 64 + 0 < 64 := by omega
    have hu5 : (n : Int) % 64 < 64 := by omega
    go_wp2
    go_ret
    exact ⟨rfl, row2, tch2⟩
set_option maxRecDepth 100000 in
/-- Blocks behind blocks. -/
theorem absN_add (ks st x : List Nat) (q : Nat) : ∀ k, absN ks st x (q + k) = absN ks (absN ks st x q) (x.drop (64 * q)) k
  | 0 => rfl
  | k + 1 => by
    rw [← Nat.add_assoc, absN, absN_add ks st x q k, absN, List.drop_drop, show 64 * q + 64 * k = 64 * (q + k) by omega]
set_option maxRecDepth 100000 in
theorem absN_pre (ks st m d : List Nat) : ∀ k, 64 * k ≤ m.length → absN ks st (m ++ d) k = absN ks st m k
  | 0, _ => rfl
  | k + 1, h => by
    rw [absN, absN, absN_pre ks st m d k (by omega), List.drop_append_of_le_length (by omega), List.take_append_of_le_length (by rw [List.length_drop]; omega)]
/-- The hasher at block g has taken the message m. -/
def Took (ks sn m : List Nat) (g : Nat) (w : World) : Prop :=
  ∃ st rest : List Nat, st.length = 8 ∧ rest.length = 64 ∧ Wrd st ∧ Byt rest ∧ w.heap[g]? = some (.cells (hs st rest m.length) 99 (0, 0)) ∧ begS sn st m.length = absN ks sn m (m.length / 64) ∧ rest.take (m.length % 64) = m.drop (64 * (m.length / 64))
/-- A slice of bytes that is no part of block g. -/
def Bts (g : Nat) (v : Value) (d : List Nat) (w : World) : Prop :=
  (v = .slice none 0 0 ∧ d = []) ∨ ∃ b off cap, v = .slice (some ⟨b, off, none⟩) d.length cap ∧ d.length ≤ cap ∧ cap ≤ maxLen ∧ b ≠ g ∧ b < w.heap.size ∧ ∀ j, j < d.length → w.cell? ⟨b, off + j, none⟩ = some (.int .u8 ((d.getD j 0 : Nat) : Int))
set_option maxRecDepth 100000 in
theorem write_took (ks sn : List Nat) (hm : MixOK ks) (hsn : sn.length = 8) (hsnw : Wrd sn) (g : Nat) (m d : List Nat) (hdb : Byt d) (hn : m.length + d.length ≤ 1152921504606846976) (v : Value) (w : World) (hv : Bts g v d w) (hg : g ≠ 4) (hg1 : 4 < w.heap.size)
    (hS : Hid (∀ j, j < 8 → w.cell? ⟨3, j, none⟩ = some (.int .u32 ((sn.getD j 0 : Nat) : Int)))) (hK : Hid (∀ j, j < 64 → w.cell? ⟨4, j, none⟩ = some (.int .u32 ((ks.getD j 0 : Nat) : Int)))) (hT : Took ks sn m g w) :
    Calls Tryd.prog 40 #[.pointer (some ⟨g, 0, none⟩), v] w fun e w' => e = .returned (.int .i64 0) ∧ Took ks sn (m ++ d) g w' ∧ Touch g w w' := by
  obtain ⟨st, rest, hst, hrs, hsw, hrb, hh, hbeg, hrt⟩ := hT
  have bl : (begS sn st m.length).length = 8 := by unfold begS; split <;> assumption
  have bw : Wrd (begS sn st m.length) := by unfold begS; split <;> assumption
  rcases hv with ⟨rfl, rfl⟩ | ⟨b, off, cap, rfl, hcap, hmax, hbg, hbl, hd⟩
  · refine (write_nil sn hsn g st rest m.length hst hrs (by simpa using hn) w hS hh).mono fun e w' ⟨he, hr, ht⟩ => ⟨he, ?_, ht⟩
    rw [List.append_nil]
    refine ⟨_, rest, bl, hrs, bw, hrb, hr.out, ?_, hrt⟩
    rw [← hbeg]; unfold begS; split <;> rfl
  by_cases hu : m.length % 64 = 0
  · refine (write_edge ks sn hm hsn hsnw g st rest m.length hst hrs hsw d hdb hn hu b off cap hcap hmax w hbg hbl hg hg1 hS hK hd hh).mono fun e w' ⟨he, hr, ht⟩ => ⟨he, ?_, ht⟩
    have hdrop : (m ++ d).drop (64 * (m.length / 64)) = d := List.drop_left' (by omega)
    have hq : (m ++ d).length / 64 = m.length / 64 + d.length / 64 := by rw [List.length_append]; omega
    have hmod : (m ++ d).length % 64 = d.length % 64 := by rw [List.length_append]; omega
    have e1 : absN ks sn (m ++ d) ((m ++ d).length / 64) = absN ks (begS sn st m.length) d (d.length / 64) := by
      rw [hq, absN_add, hdrop, absN_pre ks sn m d _ (by omega), hbeg]
    have lrest : (d.drop (64 * (d.length / 64))).length = d.length % 64 := by rw [List.length_drop]; omega
    have hr' := hr.out
    rw [← List.length_append] at hr'
    refine ⟨_, _, absN_len _ _ _ bl _, ?_, absN_wrd _ _ _ bw _, ?_, hr', ?_, ?_⟩
    rotate_left 2
    · by_cases h0 : (m ++ d).length = 0
      · have hd0 : d.length = 0 := by rw [List.length_append] at h0; omega
        rw [e1, hd0, h0]
        have hm0 : m.length = 0 := by rw [List.length_append] at h0; omega
        simp [begS, hm0, absN]
      · unfold begS at e1 ⊢
        rw [if_neg h0, e1]
    · rw [hmod, List.take_left' lrest, hq, show 64 * (m.length / 64 + d.length / 64) = 64 * (m.length / 64) + 64 * (d.length / 64) by omega, ← List.drop_drop, hdrop]
    · rw [List.length_append, lrest, List.length_drop, hrs]; omega
    · intro x hx
      rcases List.mem_append.1 hx with h | h
      · exact hdb x (List.mem_of_mem_drop h)
      · exact hrb x (List.mem_of_mem_drop h)
  have hst2 : begS sn st m.length = st := by unfold begS; rw [if_neg (by intro h; rw [h] at hu; exact hu (by decide))]
  rw [hst2] at hbeg
  have lm : (m.drop (64 * (m.length / 64))).length = m.length % 64 := by rw [List.length_drop]; omega
  by_cases hsh : m.length % 64 + d.length < 64
  · refine (write_short sn hsn g st rest m.length hst hrs d hn (by omega) hsh b off cap w hbg hbl hS hd hh).mono fun e w' ⟨he, hr, ht⟩ => ⟨he, ?_, ht⟩
    have hq : (m ++ d).length / 64 = m.length / 64 := by rw [List.length_append]; omega
    have hmod : (m ++ d).length % 64 = m.length % 64 + d.length := by rw [List.length_append]; omega
    have hr' := hr.out
    rw [← List.length_append] at hr'
    refine ⟨st, _, hst, ?_, hsw, ?_, hr', ?_, ?_⟩
    rotate_left 2
    · rw [hq, absN_pre ks sn m d _ (by omega), ← hbeg]
      unfold begS
      rw [if_neg (by rw [List.length_append]; omega)]
    · rw [hmod, hq, hrt, List.drop_append_of_le_length (by omega)]
      exact List.take_left' (by rw [List.length_append, lm])
    · simp only [List.length_append, List.length_take, List.length_drop, hrs]; omega
    · intro x hx
      rcases List.mem_append.1 hx with h | h
      · rcases List.mem_append.1 h with h | h
        · exact hrb x (List.mem_of_mem_take h)
        · exact hdb x h
      · exact hrb x (List.mem_of_mem_drop h)
  · have hF : Calls Tryd.prog 40 #[.pointer (some ⟨g, 0, none⟩), .slice (some ⟨b, off, none⟩) d.length cap] w fun e w' => e = .returned (.int .i64 0) ∧
      Hid (w'.heap[g]? = some (.cells (hs (absN ks (mixN ks st (rest.take (m.length % 64) ++ d.take (64 - m.length % 64))) (d.drop (64 - m.length % 64)) ((d.drop (64 - m.length % 64)).length / 64)) ((d.drop (64 - m.length % 64)).drop (64 * ((d.drop (64 - m.length % 64)).length / 64)) ++ (rest.take (m.length % 64) ++ d.take (64 - m.length % 64)).drop ((d.drop (64 - m.length % 64)).length % 64)) (m.length + d.length)) 99 (0, 0))) ∧ Touch g w w' := by
      by_cases hce : cap = 64 - m.length % 64
      · exact write_fill_end ks sn hm hsn g st rest m.length hst hrs hsw hrb d hdb hn (by omega) (by omega) b off cap hce hcap w hbg hbl hg hg1 hK hS hd hh
      · exact write_fill ks sn hm hsn g st rest m.length hst hrs hsw hrb d hdb hn (by omega) (by omega) b off cap hce hcap hmax w hbg hbl hg hg1 hK hS hd hh
    refine hF.mono fun e w' ⟨he, hr, ht⟩ => ⟨he, ?_, ht⟩
    obtain ⟨u, hu2⟩ : ∃ u, u = 64 - m.length % 64 := ⟨_, rfl⟩
    rw [← hu2] at hr
    have hul : u ≤ d.length := by omega
    have lu : (d.drop u).length = d.length - u := List.length_drop
    have hq : (m ++ d).length / 64 = m.length / 64 + 1 + (d.drop u).length / 64 := by rw [List.length_append, lu]; omega
    have hmod : (m ++ d).length % 64 = (d.drop u).length % 64 := by rw [List.length_append, lu]; omega
    have hdrop : (m ++ d).drop (64 * (m.length / 64 + 1)) = d.drop u := by
      rw [show 64 * (m.length / 64 + 1) = m.length + u by omega, ← List.drop_drop, List.drop_left]
    have hblk : ((m ++ d).drop (64 * (m.length / 64))).take 64 = rest.take (m.length % 64) ++ d.take u := by
      rw [hrt, List.drop_append_of_le_length (by omega), List.take_append, lm, List.take_of_length_le (by omega), ← hu2]
    have e1 : absN ks sn (m ++ d) ((m ++ d).length / 64) = absN ks (mixN ks st (rest.take (m.length % 64) ++ d.take u)) (d.drop u) ((d.drop u).length / 64) := by
      rw [hq, absN_add, hdrop, absN, hblk, absN_pre ks sn m d _ (by omega), ← hbeg]
    have lrest : ((d.drop u).drop (64 * ((d.drop u).length / 64))).length = (d.drop u).length % 64 := by rw [List.length_drop]; omega
    have hr' := hr.out
    rw [← List.length_append] at hr'
    refine ⟨_, _, absN_len _ _ _ (mixN_len _ _ _) _, ?_, absN_wrd _ _ _ (mixN_wrd _ _ _) _, ?_, hr', ?_, ?_⟩
    rotate_left 2
    · rw [e1]
      unfold begS
      rw [if_neg (by rw [List.length_append]; omega)]
    · rw [hmod, List.take_left' lrest, hq, show 64 * (m.length / 64 + 1 + (d.drop u).length / 64) = 64 * (m.length / 64 + 1) + 64 * ((d.drop u).length / 64) by omega, ← List.drop_drop, hdrop]
    · simp only [List.length_append, List.length_drop, List.length_take, hrs]; omega
    · intro x hx
      rcases List.mem_append.1 hx with h | h
      · exact hdb x (List.mem_of_mem_drop (List.mem_of_mem_drop h))
      · rcases List.mem_append.1 (List.mem_of_mem_drop h) with h | h
        · exact hrb x (List.mem_of_mem_take h)
        · exact hdb x (List.mem_of_mem_take h)
end Go.Proofs.YtceclpabdfncoaaDoor.Sha

namespace Go.Proofs.YtceclpabdfncoaaDoor.Sha
open Go.RowKit
/-- The sum of a message. -/
def shaN (ks sn m : List Nat) : List Nat := sumS (padN ks (absN ks sn m (m.length / 64)) (m.drop (64 * (m.length / 64))) m.length)
set_option maxRecDepth 100000 in
theorem shaN_len (ks sn m : List Nat) : (shaN ks sn m).length = 32 := sumS_len _
set_option maxRecDepth 100000 in
theorem padR_take {a b : List Nat} {u : Nat} (h : a.take u = b.take u) : padR a u = padR b u := by unfold padR; rw [h]
set_option maxRecDepth 100000 in
theorem padN_take (ks st a b : List Nat) (n : Nat) (h : a.take (n % 64) = b.take (n % 64)) : padN ks st a n = padN ks st b n := by
  unfold padN; rw [padR_take h]
set_option maxRecDepth 100000 in
theorem sum_took (ks sn : List Nat) (hm : MixOK ks) (hsn : sn.length = 8) (hsnw : Wrd sn) (g : Nat) (m : List Nat) (hn : m.length ≤ 1152921504606846976) (w : World) (hg1 : 4 < w.heap.size)
    (hS : Hid (∀ j, j < 8 → w.cell? ⟨3, j, none⟩ = some (.int .u32 ((sn.getD j 0 : Nat) : Int)))) (hK : Hid (∀ j, j < 64 → w.cell? ⟨4, j, none⟩ = some (.int .u32 ((ks.getD j 0 : Nat) : Int)))) (hT : Took ks sn m g w) :
    Calls Tryd.prog 41 #[.pointer (some ⟨g, 0, none⟩)] w fun e w' => e = .returned (.agg (bs (shaN ks sn m))) ∧ Below w.heap.size w w' := by
  obtain ⟨st, rest, hst, hrs, hsw, hrb, hh, hbeg, hrt⟩ := hT
  refine (sum_of ks sn hm hsn hsnw g st rest m.length hst hrs hn hsw hrb w hg1 hS hK hh).mono fun e w' ⟨he, hb⟩ => ⟨?_, hb⟩
  rw [he, hbeg, shaN, padN_take ks _ rest (m.drop (64 * (m.length / 64))) m.length]
  rw [hrt, List.take_of_length_le (by rw [List.length_drop]; omega)]
set_option maxRecDepth 100000 in
theorem took_zero (ks sn : List Nat) (g : Nat) (w : World) (h : w.heap[g]? = some (.cells hz 99 (0, 0))) : Took ks sn [] g w :=
  ⟨List.replicate 8 0, List.replicate 64 0, by simp, by simp, fun x hx => by rw [List.eq_of_mem_replicate hx]; decide, fun x hx => by rw [List.eq_of_mem_replicate hx]; decide, h, rfl, rfl⟩
set_option maxRecDepth 100000 in
theorem Took.keep {ks sn m : List Nat} {g : Nat} {w w' : World} (h : Took ks sn m g w) (hb : w'.heap[g]? = w.heap[g]?) : Took ks sn m g w' := by
  obtain ⟨st, rest, h1, h2, h3, h4, h5, h6⟩ := h
  exact ⟨st, rest, h1, h2, h3, h4, hb.trans h5, h6⟩
set_option maxRecDepth 100000 in
theorem Took.lt {ks sn m : List Nat} {g : Nat} {w : World} (h : Took ks sn m g w) : g < w.heap.size := by
  obtain ⟨st, rest, _, _, _, _, h5, _⟩ := h
  exact (Array.getElem?_eq_some_iff.1 h5).1
set_option maxRecDepth 100000 in
theorem Bts.keep {g : Nat} {v : Value} {d : List Nat} {w w' : World} (h : Bts g v d w) (hs : w.heap.size ≤ w'.heap.size) (hb : ∀ j, j < w.heap.size → j ≠ g → w'.heap[j]? = w.heap[j]?) : Bts g v d w' := by
  rcases h with h | ⟨b, off, cap, h1, h2, h3, h4, h5, h6⟩
  · exact .inl h
  · exact .inr ⟨b, off, cap, h1, h2, h3, h4, by omega, fun j hj => (World.cell?_of_block (w := w) (hb b h5 h4)).trans (h6 j hj)⟩
/-- A slice of bytes. -/
def Byl (v : Value) (d : List Nat) (w : World) : Prop :=
  (v = .slice none 0 0 ∧ d = []) ∨ ∃ b off cap, v = .slice (some ⟨b, off, none⟩) d.length cap ∧ d.length ≤ cap ∧ cap ≤ maxLen ∧ b < w.heap.size ∧ ∀ j, j < d.length → w.cell? ⟨b, off + j, none⟩ = some (.int .u8 ((d.getD j 0 : Nat) : Int))
set_option maxRecDepth 100000 in
theorem Byl.bts {v : Value} {d : List Nat} {w w' : World} (h : Byl v d w) (g : Nat) (hg : w.heap.size ≤ g) (hs : w.heap.size ≤ w'.heap.size) (hb : ∀ j, j < w.heap.size → w'.heap[j]? = w.heap[j]?) : Bts g v d w' := by
  rcases h with h | ⟨b, off, cap, h1, h2, h3, h5, h6⟩
  · exact .inl h
  · exact .inr ⟨b, off, cap, h1, h2, h3, by omega, by omega, fun j hj => (World.cell?_of_block (w := w) (hb b h5)).trans (h6 j hj)⟩
set_option maxRecDepth 100000 in
theorem Byl.keep {v : Value} {d : List Nat} {w w' : World} (h : Byl v d w) (hs : w.heap.size ≤ w'.heap.size) (hb : ∀ j, j < w.heap.size → w'.heap[j]? = w.heap[j]?) : Byl v d w' := by
  rcases h with h | ⟨b, off, cap, h1, h2, h3, h5, h6⟩
  · exact .inl h
  · exact .inr ⟨b, off, cap, h1, h2, h3, by omega, fun j hj => (World.cell?_of_block (w := w) (hb b h5)).trans (h6 j hj)⟩
set_option maxRecDepth 100000 in
theorem sum_flat_le (ds : List (List Nat)) (k : Nat) : (ds.take k).flatten.length ≤ ds.flatten.length := by
  conv => rhs; rw [← List.take_append_drop k ds, List.flatten_append, List.length_append]
  omega
set_option maxRecDepth 100000 in
theorem take_flat (ds : List (List Nat)) (k : Nat) (h : k < ds.length) : (ds.take (k + 1)).flatten = (ds.take k).flatten ++ ds[k] := by
  rw [List.take_succ_eq_append_getElem h, List.flatten_append]
  simp
attribute [local go_sem] zero43
set_option maxRecDepth 100000 in
set_option maxHeartbeats 1000000 in
/-- sumOfParts. -/
theorem parts_any (ks sn : List Nat) (hm : MixOK ks) (hsn : sn.length = 8) (hsnw : Wrd sn) (ds : List (List Nat)) (vs : List Value) (hvl : vs.length = ds.length) (hn : ds.flatten.length ≤ 1152921504606846976) (hdb : ∀ d ∈ ds, Byt d)
    (p cap : Nat) (hk : ds.length ≤ cap) (hcm : cap ≤ maxLen) (w : World) (hpl : p < w.heap.size) (hg1 : 4 < w.heap.size)
    (hP : Hid (∀ j (h : j < vs.length), w.cell? ⟨p, j, none⟩ = some (vs[j]'h))) (hB : Hid (∀ j (h1 : j < vs.length) (h2 : j < ds.length), Byl (vs[j]'h1) (ds[j]'h2) w))
    (hS : Hid (∀ j, j < 8 → w.cell? ⟨3, j, none⟩ = some (.int .u32 ((sn.getD j 0 : Nat) : Int)))) (hK : Hid (∀ j, j < 64 → w.cell? ⟨4, j, none⟩ = some (.int .u32 ((ks.getD j 0 : Nat) : Int)))) :
    Calls Tryd.prog 31 #[.slice (some ⟨p, 0, none⟩) ds.length cap] w fun e w' => e = .returned (.agg (bs (shaN ks sn ds.flatten))) ∧ Below w.heap.size w w' := by
  unfold maxLen at hcm
  go_enter Tryd.func31, Tryd.ntmps31
  go_wp2_with fail
  try rw [zc76]
  generalize hW : (w.alloc (Obj.cells _ 57)).alloc (Obj.cells hz 99) = W0
  have rowR : Hid (W0.heap[w.heap.size]? = some (.cells (bs z32) 57 (0, 0))) := by rw [← hW]; exact heap_alloc2_old _ _ _
  have took0 : Took ks sn [] (w.heap.size + 1) W0 := took_zero _ _ _ _ (by rw [← hW]; exact heap_alloc2_new _ _ _)
  have bel0 : Below w.heap.size w W0 := by rw [← hW]; exact ((Below.refl _ w).alloc (Nat.le_refl _) _).alloc (by simp) _
  have hs0 : W0.heap.size = w.heap.size + 2 := by rw [← hW]; simp
  clear hW
  have HS0 : Hid (W0.heap.size = w.heap.size + 2) := hs0
  clear hs0
  go_loopw [8] (fun i wr => ∃ k : Nat, i = .int .i64 (k : Int) ∧ k ≤ ds.length ∧ Hid (Took ks sn (ds.take k).flatten (w.heap.size + 1) wr) ∧ Touch (w.heap.size + 1) W0 wr) (fun i _ => ds.length - (intOf i).toNat)
  case atStart => exact ⟨0, rfl, by omega, (by rw [List.take_zero]; exact took0 : Took ks sn (ds.take 0).flatten (w.heap.size + 1) W0), Touch.refl _ _⟩
  case round =>
    clear took0
    obtain ⟨k, rfl, hk', HT, tch⟩ := hrel
    have hsz := tch.size
    have HSZ : Hid (w.heap.size + 2 ≤ wr.heap.size) := by have := HS0.out; show _ ≤ _; omega
    clear hsz
    have hold : Hid (∀ j, j < w.heap.size → wr.heap[j]? = w.heap[j]?) := fun j hj => (tch.block j (by have := HS0.out; omega) (by omega)).trans (bel0.block j hj)
    have hS' : Hid (∀ j, j < 8 → wr.cell? ⟨3, j, none⟩ = some (.int .u32 ((sn.getD j 0 : Nat) : Int))) := fun j hj => (World.cell?_of_block (w := w) (hold.out 3 (by omega))).trans (hS.out j hj)
    have hK' : Hid (∀ j, j < 64 → wr.cell? ⟨4, j, none⟩ = some (.int .u32 ((ks.getD j 0 : Nat) : Int))) := fun j hj => (World.cell?_of_block (w := w) (hold.out 4 hg1)).trans (hK.out j hj)
    by_cases hlt : k < ds.length
    · have hlt' : (k : Int) < (ds.length : Int) := by omega
      have hk0 : (0 : Int) ≤ (k : Int) := by omega
      have hkn : (k : Int).toNat = k := by omega
      obtain ⟨v, hv⟩ : ∃ v, v = vs[k]'(by omega) := ⟨_, rfl⟩
      obtain ⟨d, hd⟩ : ∃ d, d = ds[k]'hlt := ⟨_, rfl⟩
      have cv : wr.cell? ⟨p, k, none⟩ = some v := by rw [hv]; exact (World.cell?_of_block (w := w) (hold.out p hpl)).trans (hP.out k (by omega))
      have hby : Byl v d w := by rw [hv, hd]; exact hB.out k (by omega) hlt
      have hbt : Bts (w.heap.size + 1) v d wr := hby.bts _ (by omega) (by have := HSZ.out; omega) hold.out
      have hlen : (ds.take k).flatten.length + d.length ≤ 1152921504606846976 := by
        have h1 := sum_flat_le ds (k + 1)
        rw [take_flat ds k hlt, List.length_append, ← hd] at h1
        omega
      have HD : Hid (d = ds[k]'hlt) := hd
      have hwr := write_took ks sn hm hsn hsnw (w.heap.size + 1) (ds.take k).flatten d (hdb d (by rw [hd]; exact List.getElem_mem hlt)) hlen v wr hbt (by omega) (by have := HSZ.out; omega) hS' hK' HT.out
      have HW : Hid (Calls Tryd.prog 40 #[.pointer (some ⟨w.heap.size + 1, 0, none⟩), v] wr fun e w' => e = .returned (.int .i64 0) ∧ Took ks sn ((ds.take k).flatten ++ d) (w.heap.size + 1) w' ∧ Touch (w.heap.size + 1) wr w') := hwr
      clear hwr hv hd hby hbt hlen
      go_wp2_with (go_at_call 40; refine HW.out.mono ?_; rintro e w' ⟨rfl, ht', tc'⟩)
      go_roundw
      case rel =>
        refine ⟨k + 1, by go_num, by omega, ?_, tch.trans tc'⟩
        show Took _ _ _ _ _
        rw [take_flat ds k hlt, ← HD.out]
        exact ht'
      case measure => simp [intOf]; omega
    · have hlt' : ¬ (k : Int) < (ds.length : Int) := by omega
      have hkk : k = ds.length := by omega
      have HT2 : Hid (Took ks sn ds.flatten (w.heap.size + 1) wr) := by have := HT.out; rw [hkk, List.take_length] at this; exact this
      have hsum := sum_took ks sn hm hsn hsnw (w.heap.size + 1) ds.flatten hn wr (by have := HSZ.out; omega) hS' hK' HT2.out
      have HSm : Hid (Calls Tryd.prog 41 #[.pointer (some ⟨w.heap.size + 1, 0, none⟩)] wr fun e w' => e = .returned (.agg (bs (shaN ks sn ds.flatten))) ∧ Below wr.heap.size wr w') := hsum
      clear hsum HT hkk
      have sl := shaN_len ks sn ds.flatten
      have rowRr : Hid (wr.heap[w.heap.size]? = some (.cells (bs z32) 57 (0, 0))) := (tch.block _ (by have := HS0.out; omega) (by omega)).trans rowR.out
      go_wp2_with (first
        | (go_at_call 41; refine HSm.out.mono ?_; rintro e w' ⟨rfl, hb'⟩)
        | refine wpList_store_row rfl 57 _ _ rfl _ _ rfl rfl 57 _ (by exact (hb'.block _ (by have := HSZ.out; omega)).trans rowRr.out) (by rw [size28, bs_size, sl]) (by rw [bs_size, bs_size, sl]; rfl) (bs_one _) ?_)
      have hres : (w'.setRow w.heap.size (bs (shaN ks sn ds.flatten))).heap[w.heap.size]? = some (.cells (bs (shaN ks sn ds.flatten)) 57 (0, 0)) := setRow_heap _ _ _ _ _ _ ((hb'.block _ (by have := HSZ.out; omega)).trans rowRr.out)
      refine bodyPost_ret (v := .agg (bs (shaN ks sn ds.flatten))) (results_cell_row rfl _ _ w.heap.size 57 _ (0, 0) _ rfl hres Tryd.underlying57 rfl (by rw [size28, bs_size, sl])) rfl ⟨rfl, ?_⟩
      exact below_setRow ((bel0.trans (tch.below (by omega) (by have := HS0.out; omega))).trans (hb'.mono (by have := HSZ.out; omega))) (Nat.le_refl _) _
set_option maxRecDepth 100000 in
theorem Byl.shape {v : Value} {d : List Nat} {w : World} (h : Byl v d w) : ∃ o c, v = .slice o d.length c := by
  rcases h with ⟨h, h2⟩ | ⟨b, off, cap, h1, _⟩
  · exact ⟨none, 0, by rw [h, h2]; rfl⟩
  · exact ⟨_, _, h1⟩
set_option maxRecDepth 100000 in
theorem one_lt {n : Nat} (h : 6 < n) (k : Nat) : 6 < n + k := by omega
set_option maxRecDepth 100000 in
set_option maxHeartbeats 400000 in
/-- Of. -/
theorem of_any (ks sn : List Nat) (hm : MixOK ks) (hsn : sn.length = 8) (hsnw : Wrd sn) (d : List Nat) (v : Value) (hn : d.length ≤ 1152921504606846976) (hdb : Byt d) (w : World) (hg1 : 4 < w.heap.size) (hv : Byl v d w)
    (hS : Hid (∀ j, j < 8 → w.cell? ⟨3, j, none⟩ = some (.int .u32 ((sn.getD j 0 : Nat) : Int)))) (hK : Hid (∀ j, j < 64 → w.cell? ⟨4, j, none⟩ = some (.int .u32 ((ks.getD j 0 : Nat) : Int)))) :
    Calls Tryd.prog 16 #[v] w fun e w' => e = .returned (.agg (bs (shaN ks sn d))) ∧ Below w.heap.size w w' := by
  obtain ⟨o, c, rfl⟩ := hv.shape
  have sl := shaN_len ks sn d
  go_enter Tryd.func16, Tryd.ntmps16
  go_wp2_with fail
  generalize hW : (w.alloc (Obj.cells _ 57)).alloc (Obj.cells #[Value.slice o d.length c] 23) = W0
  have rowR : Hid (W0.heap[w.heap.size]? = some (.cells (bs z32) 57 (0, 0))) := by rw [← hW]; exact heap_alloc2_old _ _ _
  have rowP : W0.heap[w.heap.size + 1]? = some (.cells #[Value.slice o d.length c] 23 (0, 0)) := by rw [← hW]; exact heap_alloc2_new _ _ _
  have bel0 : Below w.heap.size w W0 := by rw [← hW]; exact ((Below.refl _ w).alloc (Nat.le_refl _) _).alloc (by simp) _
  have hs0 : W0.heap.size = w.heap.size + 2 := by rw [← hW]; simp
  clear hW
  have hp := parts_any ks sn hm hsn hsnw [d] [.slice o d.length c] rfl (by simpa using hn) (fun x hx => by rw [List.mem_singleton.1 hx]; exact hdb) (w.heap.size + 1) 1 (by simp) (by decide) W0 (by omega) (by omega)
    (fun j h => by
      have hj : j = 0 := by simpa using h
      subst hj
      rw [cell_of_row W0 _ _ _ _ _ rowP]; rfl)
    (fun j h1 h2 => by
      have hj : j = 0 := by simpa using h1
      subst hj
      exact hv.keep (by omega) bel0.block)
    (fun j hj => (bel0.cell (by simp; omega)).trans (hS.out j hj)) (fun j hj => (bel0.cell (by simpa using hg1)).trans (hK.out j hj))
  rw [List.flatten_singleton] at hp
  refine hp.mono ?_
  rintro e w' ⟨rfl, hb'⟩
  go_wp2_with (refine wpList_store_row rfl 57 _ _ rfl _ _ rfl rfl 57 _ (by exact (hb'.block _ (by omega)).trans rowR.out) (by rw [size28, bs_size, sl]) (by rw [bs_size, bs_size, sl]; rfl) (bs_one _) ?_)
  have hres : (w'.setRow w.heap.size (bs (shaN ks sn d))).heap[w.heap.size]? = some (.cells (bs (shaN ks sn d)) 57 (0, 0)) := setRow_heap _ _ _ _ _ _ ((hb'.block _ (by omega)).trans rowR.out)
  refine bodyPost_ret (v := .agg (bs (shaN ks sn d))) (results_cell_row rfl _ _ w.heap.size 57 _ (0, 0) _ rfl hres Tryd.underlying57 rfl (by rw [size28, bs_size, sl])) rfl ⟨rfl, ?_⟩
  exact below_setRow (bel0.trans (hb'.mono (by omega))) (Nat.le_refl _) _
end Go.Proofs.YtceclpabdfncoaaDoor.Sha
