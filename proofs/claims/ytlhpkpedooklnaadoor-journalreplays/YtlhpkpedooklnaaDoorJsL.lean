/- JournalReplays: the document's Replay, its loop. Made by a program. -/
import Derived.Test.YtlhpkpedooklnaaDoorJsK
namespace Go.Proofs.YtlhpkpedooklnaaDoor
open Go.RowKit
open JM
theorem pick_end {W wr : World} {s : St} {tb tt : Value} {stt pl f : Nat} (hb : Below W.heap.size W wr) (hr : wr.heap[W.heap.size + 1]? = some (.cells zS 30 (0, 0))) (hL : Ll W.heap.size wr tb s.base) (hM : Lb W.heap.size wr tt s.batches) :
    ∃ V2 V3, (stTd (.pointer (some ⟨wr.heap.size, 0, none⟩)) (.agg (tdA s tb tt stt pl))).run Tryd.prog (wr.alloc (.cells #[.bool false, .int .i64 0, .int .i64 0, .int .i64 0, .slice none 0 0, .slice none 0 0, .int .i64 0, .int .i64 0] 45)) = .ok () V2 ∧ V2.cell? ⟨wr.heap.size, 1, none⟩ = some (.int .i64 (s.good : Int)) ∧ V2.cell? ⟨wr.heap.size, 2, none⟩ = some (.int .i64 (s.gen : Int)) ∧ V2.cell? ⟨wr.heap.size, 3, none⟩ = some (.int .i64 (s.first : Int)) ∧ V2.cell? ⟨wr.heap.size, 4, none⟩ = some tb ∧ V2.cell? ⟨wr.heap.size, 5, none⟩ = some tt ∧
      (stSt (.pointer (some ⟨W.heap.size + 1, 0, none⟩)) (.agg #[.int .i64 (f : Int), .int .i64 (s.good : Int), .int .i64 (s.gen : Int), .int .i64 (s.first : Int), tb, tt])).run Tryd.prog V2 = .ok () V3 ∧ V3.heap[W.heap.size + 1]? = some (.cells #[.int .i64 (f : Int), .int .i64 (s.good : Int), .int .i64 (s.gen : Int), .int .i64 (s.first : Int), tb, tt] 30 (0, 0)) ∧
      AnsP W (.story f s) (.returned (.tuple #[.agg #[.int .i64 (f : Int), .int .i64 (s.good : Int), .int .i64 (s.gen : Int), .int .i64 (s.first : Int), tb, tt], .int .i64 ((0 : Nat) : Int), .int .i64 ((0 : Nat) : Int), .int .i64 ((0 : Nat) : Int)])) V3 := by
  obtain ⟨X, hX⟩ : ∃ X, wr.alloc (.cells #[.bool false, .int .i64 0, .int .i64 0, .int .i64 0, .slice none 0 0, .slice none 0 0, .int .i64 0, .int .i64 0] 45) = X := ⟨_, rfl⟩
  have hsz := (Array.getElem?_eq_some_iff.1 hr).1
  obtain ⟨o, c, etb⟩ := hL.sl
  obtain ⟨o2, c2, ett⟩ := hM.sl
  have x0 : X.heap[wr.heap.size]? = some (.cells (tdA St.new (.slice none 0 0) (.slice none 0 0) 0 0) 45 (0, 0)) := by rw [← hX]; exact heap_alloc_new _ _
  have xb : Below wr.heap.size wr X := by rw [← hX]; exact (Below.refl _ wr).alloc (Nat.le_refl _) _
  have o8 : (tdA s tb tt stt pl).all (·.oneCell') = true := by rw [etb, ett]; simp [tdA, Value.oneCell']
  have r2 := setRow_heap X wr.heap.size _ (tdA s tb tt stt pl) _ _ x0
  have vb : Below wr.heap.size wr (X.setRow wr.heap.size (tdA s tb tt stt pl)) := ⟨xb.os, xb.tape, xb.output, by rw [size_setRow]; exact xb.size, fun k hk => (setRow_other _ _ _ _ (by omega)).trans (xb.block k hk)⟩
  have vr := (vb.block _ hsz).trans hr
  have vW : Below W.heap.size W (X.setRow wr.heap.size (tdA s tb tt stt pl)) := hb.trans (vb.mono hb.size)
  have AE := ans_end (X := .story f s) (c := #[.int .i64 (f : Int), .int .i64 (s.good : Int), .int .i64 (s.gen : Int), .int .i64 (s.first : Int), tb, tt]) vW vr rfl 0 0 0 ⟨⟨rfl, rfl, rfl, rfl, hL.keep (stay_below vb), hM.keep (stay_below vb)⟩, rfl, rfl, rfl⟩
  rw [hX]
  refine ⟨_, _, st_TdR X _ _ _ rfl rfl o8 x0, (cell_of_row _ _ _ _ _ _ r2).trans rfl, (cell_of_row _ _ _ _ _ _ r2).trans rfl, (cell_of_row _ _ _ _ _ _ r2).trans rfl, (cell_of_row _ _ _ _ _ _ r2).trans rfl, (cell_of_row _ _ _ _ _ _ r2).trans rfl, st_StR _ _ zS _ rfl rfl ?_ vr, AE.1, AE.2⟩
  rw [etb, ett]
  simp [Value.oneCell']
attribute [local go_sem ↓] toLdSt toStSt toLdTd toStTd in
set_option maxRecDepth 100000 in
set_option maxHeartbeats 3200000 in
theorem replayR_any (W : World) {c0 c1 : Nat} {o0 o1 : Option Addr} {l0 l1 : List Nat} (h0 : Bl W (.slice o0 l0.length c0) l0) (h1 : Bl W (.slice o1 l1.length c1) l1) :
    Calls Tryd.prog 6 #[.agg #[.slice o0 l0.length c0, .slice o1 l1.length c1]] W (AnsP W (rep l0 l1)) := by
  obtain ⟨V, hV⟩ : ∃ V, ((W.alloc (.cells #[.slice o0 l0.length c0, .slice o1 l1.length c1] 25)).alloc (.cells #[.int .i64 0, .int .i64 0, .int .i64 0, .int .i64 0, .slice none 0 0, .slice none 0 0] 30)).alloc (.cells #[.bool false, .int .i64 0, .int .i64 0, .int .i64 0, .slice none 0 0, .slice none 0 0, .int .i64 0, .int .i64 0, .bool false, .int .i64 0, .int .i64 0, .int .i64 0, .slice none 0 0, .slice none 0 0, .int .i64 0, .int .i64 0] 46) = V := ⟨_, rfl⟩
  have vb : Below W.heap.size W V := by rw [← hV]; exact (((Below.refl _ W).alloc (Nat.le_refl _) _).alloc (by simp) _).alloc (by simp; omega) _
  have v1 : V.heap[W.heap.size + 1]? = some (.cells zS 30 (0, 0)) := by rw [← hV]; exact (al3 W _ _ _).2.1
  have v2 : V.heap[W.heap.size + 1 + 1]? = some (.cells (ar16 (.bool false) (.int .i64 0) (.int .i64 0) (.int .i64 0) (.slice none 0 0) (.slice none 0 0) (.int .i64 0) (.int .i64 0) (.bool false) (.int .i64 0) (.int .i64 0) (.int .i64 0) (.slice none 0 0) (.slice none 0 0) (.int .i64 0) (.int .i64 0)) 46 (0, 0)) := by rw [← hV]; exact (al3 W _ _ _).2.2
  have v0 : V.heap[W.heap.size]? = some (.cells #[.slice o0 l0.length c0, .slice o1 l1.length c1] 25 (0, 0)) := by rw [← hV]; exact (al3 W _ _ _).1
  have HF := mkHid (And.intro h0 (And.intro h1 (And.intro vb (And.intro v0 (And.intro v1 v2)))))
  clear h0 h1 vb v1 v2 v0
  go_enter Tryd.func6, Tryd.ntmps6
  go_wp2_with fail
  clear hV
  go_loopw [7] (fun iv wr => ∃ (i : Nat) (x0 x1 x2 x3 x4 x5 x6 x7 y0 y1 y2 y3 y4 y5 y6 y7 : Value), iv = .int .i64 (i : Int) ∧ i ≤ 2 ∧ Hid (wr.heap[W.heap.size]? = some (.cells #[.slice o0 l0.length c0, .slice o1 l1.length c1] 25 (0, 0)) ∧ wr.heap[W.heap.size + 1]? = some (.cells zS 30 (0, 0)) ∧ wr.heap[W.heap.size + 1 + 1]? = some (.cells (ar16 x0 x1 x2 x3 x4 x5 x6 x7 y0 y1 y2 y3 y4 y5 y6 y7) 46 (0, 0)) ∧ Below W.heap.size W wr ∧ (1 ≤ i → Okd W.heap.size wr l0 #[x0, x1, x2, x3, x4, x5, x6, x7]) ∧ (2 ≤ i → Okd W.heap.size wr l1 #[y0, y1, y2, y3, y4, y5, y6, y7]))) (fun iv _ => 3 - (intOf iv).toNat)
  case atStart => exact ⟨0, _, _, _, _, _, _, _, _, _, _, _, _, _, _, _, _, rfl, by omega, HF.out.2.2.2.1, HF.out.2.2.2.2.1, HF.out.2.2.2.2.2, HF.out.2.2.1, fun h => (by omega), fun h => (by omega)⟩
  case round =>
    obtain ⟨i, x0, x1, x2, x3, x4, x5, x6, x7, y0, y1, y2, y3, y4, y5, y6, y7, rfl, hi, HI⟩ := hrel
    have hsz := (Array.getElem?_eq_some_iff.1 HI.out.2.2.1).1
    match i, hi, HI with
    | 0, hi, HI =>
      have ci : ((0 : Nat) : Int) < 2 := by decide
      have cd : wr.cell? ⟨W.heap.size, 0, none⟩ = some (.slice o0 l0.length c0) := (cell_of_row _ _ _ _ _ _ HI.out.1).trans rfl
      have hx1 : (((0 : Nat) : Int)).toNat = 0 := rfl
      by_cases hlg : 67108864 < l0.length
      · have hlg2 : (67108864 : Int) < (l0.length : Int) := by omega
        have st1 := st_StR wr (W.heap.size + 1) zS #[.int .i64 0, .int .i64 0, .int .i64 0, .int .i64 0, .slice none 0 0, .slice none 0 0] rfl rfl (by simp [Value.oneCell']) HI.out.2.1
        obtain ⟨Y, hY⟩ : ∃ Y, wr.setRow (W.heap.size + 1) #[.int .i64 0, .int .i64 0, .int .i64 0, .int .i64 0, .slice none 0 0, .slice none 0 0] = Y := ⟨_, rfl⟩
        have yr : Y.heap[W.heap.size + 1]? = some (.cells zS 30 (0, 0)) := by rw [← hY]; exact setRow_heap _ _ _ _ _ _ HI.out.2.1
        have yb : Below W.heap.size W Y := by rw [← hY]; exact ⟨HI.out.2.2.2.1.os, HI.out.2.2.2.1.tape, HI.out.2.2.2.1.output, by rw [size_setRow]; exact HI.out.2.2.2.1.size, fun k hk => (setRow_other _ _ _ _ (by omega)).trans (HI.out.2.2.2.1.block k hk)⟩
        rw [hY] at st1
        have HY := mkHid (And.intro yr yb)
        clear yr yb hY
        go_wp2_with fail
        refine bodyPost_ret (results_Rd _ _ (W.heap.size + 1) zS _ _ _ rfl rfl rfl rfl rfl HY.out.1) rfl ?_
        refine ⟨HY.out.2, _, _, _, _, _, _, 1, 0, 0, rfl, ?_⟩
        rw [rep_long0 hlg]
        exact ⟨rfl, rfl, rfl, rfl⟩
      · have hlg2 : ¬ (67108864 : Int) < (l0.length : Int) := by omega
        have CF := readR_any wr (HF.out.1.below HI.out.2.2.2.1) (by omega)
        go_wp2_with fail
        refine CF.mono ?_
        rintro e w ⟨hb, c, rfl, hTo⟩
        clear CF
        obtain ⟨ab, at_, cb, ct, stt, pl, rfl, hL, hM, hm⟩ := hTo
        have bW : Below W.heap.size W w := HI.out.2.2.2.1.trans (hb.mono HI.out.2.2.2.1.size)
        have k0 := (hb.block _ (by omega)).trans HI.out.1
        have k1 := (hb.block _ (by omega)).trans HI.out.2.1
        have k2 := (hb.block _ hsz).trans HI.out.2.2.1
        have hS := st_Td w (W.heap.size + 1 + 1) 0 #[.bool (file crcN l0).1.live, .int .i64 ((file crcN l0).1.good : Int), .int .i64 ((file crcN l0).1.gen : Int), .int .i64 ((file crcN l0).1.first : Int), .slice ab (file crcN l0).1.base.length cb, .slice at_ (file crcN l0).1.batches.length ct, .int .i64 (stt : Int), .int .i64 (pl : Int)] rfl (by simp [Value.oneCell']) (ar16_there k2).1
        have hset := ar16_set0 (.bool (file crcN l0).1.live) (.int .i64 ((file crcN l0).1.good : Int)) (.int .i64 ((file crcN l0).1.gen : Int)) (.int .i64 ((file crcN l0).1.first : Int)) (.slice ab (file crcN l0).1.base.length cb) (.slice at_ (file crcN l0).1.batches.length ct) (.int .i64 (stt : Int)) (.int .i64 (pl : Int)) k2
        rw [show (#[.bool (file crcN l0).1.live, .int .i64 ((file crcN l0).1.good : Int), .int .i64 ((file crcN l0).1.gen : Int), .int .i64 ((file crcN l0).1.first : Int), .slice ab (file crcN l0).1.base.length cb, .slice at_ (file crcN l0).1.batches.length ct, .int .i64 (stt : Int), .int .i64 (pl : Int)] : Array Value).toList = [.bool (file crcN l0).1.live, .int .i64 ((file crcN l0).1.good : Int), .int .i64 ((file crcN l0).1.gen : Int), .int .i64 ((file crcN l0).1.first : Int), .slice ab (file crcN l0).1.base.length cb, .slice at_ (file crcN l0).1.batches.length ct, .int .i64 (stt : Int), .int .i64 (pl : Int)] from rfl] at hS
        obtain ⟨Y, hY⟩ : ∃ Y, w.setCells (W.heap.size + 1 + 1) 0 [.bool (file crcN l0).1.live, .int .i64 ((file crcN l0).1.good : Int), .int .i64 ((file crcN l0).1.gen : Int), .int .i64 ((file crcN l0).1.first : Int), .slice ab (file crcN l0).1.base.length cb, .slice at_ (file crcN l0).1.batches.length ct, .int .i64 (stt : Int), .int .i64 (pl : Int)] = Y := ⟨_, rfl⟩
        rw [hY] at hS hset
        have hTD : TdP W.heap.size w l0 (tdA (file crcN l0).1 (.slice ab (file crcN l0).1.base.length cb) (.slice at_ (file crcN l0).1.batches.length ct) stt pl) := ⟨ab, at_, cb, ct, stt, pl, rfl, hL.mono HI.out.2.2.2.1.size, hM.mono HI.out.2.2.2.1.size, hm⟩
        have yT := hTD.keep (stay_ty k2 tysT hset.2)
        have yO := fun (h : Okd W.heap.size wr l0 #[x0, x1, x2, x3, x4, x5, x6, x7]) => (h.keep (stay_below hb)).keep (stay_ty k2 tysT hset.2)
        have hwz := hb.size
        have y1 : Y.heap[W.heap.size + 1]? = some (.cells zS 30 (0, 0)) := (hset.2.block _ (by omega) (by omega)).trans k1
        have yd := (hset.2.block W.heap.size (by omega) (by omega)).trans k0
        have yb : Below W.heap.size W Y := ⟨hset.2.os.trans bW.os, hset.2.tape.trans bW.tape, hset.2.output.trans bW.output, Nat.le_trans bW.size hset.2.size, fun k hk => (hset.2.block k (by omega) (by omega)).trans (bW.block k hk)⟩
        have p6 : Y.cell? ⟨W.heap.size + 1 + 1, 6, none⟩ = some (.int .i64 (stt : Int)) := (cell_of_row _ _ _ _ _ _ hset.1).trans rfl
        have p7 : Y.cell? ⟨W.heap.size + 1 + 1, 7, none⟩ = some (.int .i64 (pl : Int)) := (cell_of_row _ _ _ _ _ _ hset.1).trans rfl
        have st1 := st_StR Y (W.heap.size + 1) zS #[.int .i64 0, .int .i64 0, .int .i64 0, .int .i64 0, .slice none 0 0, .slice none 0 0] rfl rfl (by simp [Value.oneCell']) y1
        cases hR : (file crcN l0).2 with
        | some p =>
          rw [hR] at hm
          obtain ⟨rfl, rfl⟩ := hm
          obtain ⟨Z, hZ⟩ : ∃ Z, Y.setRow (W.heap.size + 1) #[.int .i64 0, .int .i64 0, .int .i64 0, .int .i64 0, .slice none 0 0, .slice none 0 0] = Z := ⟨_, rfl⟩
          have zr : Z.heap[W.heap.size + 1]? = some (.cells zS 30 (0, 0)) := by rw [← hZ]; exact setRow_heap _ _ _ _ _ _ y1
          have zb : Below W.heap.size W Z := by rw [← hZ]; exact ⟨yb.os, yb.tape, yb.output, by rw [size_setRow]; exact yb.size, fun k hk => (setRow_other _ _ _ _ (by omega)).trans (yb.block k hk)⟩
          have E := fun (x : World) (h : x.heap = Z.heap ∧ x.os = Z.os ∧ x.tape = Z.tape ∧ x.output = Z.output) => (show x.heap[W.heap.size + 1]? = some (.cells zS 30 (0, 0)) ∧ Below W.heap.size W x from ⟨by rw [h.1]; exact zr, ⟨h.2.1.trans zb.os, h.2.2.1.trans zb.tape, h.2.2.2.trans zb.output, by rw [h.1]; exact zb.size, fun k hk => by rw [h.1]; exact zb.block k hk⟩⟩)
          rw [hZ] at st1
          have HZ := mkHid (And.intro zr (And.intro zb E))
          have HP := mkHid (show Y.drew.heap[W.heap.size + 1]? = some (.cells zS 30 (0, 0)) from y1)
          clear zr zb E y1 yb yd yT yO hset hTD hL hM k0 k1 k2 bW hb hY
          rw [show ((2 : Nat) : Int) = 2 from rfl] at p6 hS
          dsimp only [tdA]
          rw [show ((2 : Nat) : Int) = 2 from rfl]
          by_cases hp0 : pl = 0
          · subst hp0
            rw [show ((0 : Nat) : Int) = 0 from rfl] at p7 hS
            rw [show ((0 : Nat) : Int) = 0 from rfl]
            clear hZ
            go_wp2_with fail
            refine bodyPost_ret (results_Rd _ _ (W.heap.size + 1) zS _ _ _ rfl rfl rfl rfl rfl HZ.out.1) rfl ?_
            refine ⟨HZ.out.2.1, _, _, _, _, _, _, 110, 0, 0, rfl, ?_⟩
            rw [rep_bad0 hlg hR]
            exact ⟨rfl, rfl, rfl, rfl⟩
          · have hp1 : ((pl : Int) == 0) = false := by rw [show ((0 : Int)) = ((0 : Nat) : Int) from rfl]; exact beqF hp0
            have std := st_StR Y.drew (W.heap.size + 1) zS #[.int .i64 0, .int .i64 0, .int .i64 0, .int .i64 0, .slice none 0 0, .slice none 0 0] rfl rfl (by simp [Value.oneCell']) HP.out
            obtain ⟨Zd, hZd⟩ : ∃ Zd, Y.drew.setRow (W.heap.size + 1) #[.int .i64 0, .int .i64 0, .int .i64 0, .int .i64 0, .slice none 0 0, .slice none 0 0] = Zd := ⟨_, rfl⟩
            have hE := HZ.out.2.2 Zd (by rw [← hZd, ← hZ]; exact ⟨rfl, rfl, rfl, rfl⟩)
            have p7z : Zd.cell? ⟨W.heap.size + 1 + 1, 7, none⟩ = some (.int .i64 (pl : Int)) := by
              rw [← hZd]
              exact (World.cell?_of_block (w := Y) (a := ⟨W.heap.size + 1 + 1, 7, none⟩) (setRow_other Y.drew _ _ _ (by show W.heap.size + 1 + 1 ≠ W.heap.size + 1; omega))).trans p7
            rw [hZd] at std
            replace hE := mkHid hE
            clear st1 hZ hZd
            go_wp2_with fail
            go_region
            go_wp2_with fail
            refine bodyPost_ret (results_Rd _ _ (W.heap.size + 1) zS _ _ _ rfl rfl rfl rfl rfl hE.out.1) rfl ?_
            refine ⟨hE.out.2, _, _, _, _, _, _, 112, 0, pl, rfl, ?_⟩
            rw [rep_bad0 hlg hR]
            exact ⟨rfl, by unfold errOf; rw [if_neg hp0], rfl, rfl⟩
        | none =>
          rw [hR] at hm
          have hs2 : ((stt : Int) == 2) = false := by rw [show ((2 : Int)) = ((2 : Nat) : Int) from rfl]; exact beqF (by omega)
          have HY := mkHid (And.intro yd (And.intro y1 (And.intro hset.1 (And.intro yb (And.intro yT (And.intro yO hR))))))
          clear y1 hset yb yT yO hR k0 k1 k2 bW hTD hL hM hb hY hm yd st1
          dsimp only [tdA]
          go_wp2_with fail
          exact ⟨⟨1, _, _, _, _, _, _, _, _, _, _, _, _, _, _, _, _, rfl, by omega, HY.out.1, HY.out.2.1, HY.out.2.2.1, HY.out.2.2.2.1, fun _ => ⟨hlg, HY.out.2.2.2.2.2.2, HY.out.2.2.2.2.1⟩, fun h => (by omega)⟩, by decide⟩
    | 1, hi, HI =>
      have ci : ((1 : Nat) : Int) < 2 := by decide
      have cd : wr.cell? ⟨W.heap.size, 1, none⟩ = some (.slice o1 l1.length c1) := (cell_of_row _ _ _ _ _ _ HI.out.1).trans rfl
      have hx1 : (((1 : Nat) : Int)).toNat = 1 := rfl
      by_cases hlg : 67108864 < l1.length
      · have hlg2 : (67108864 : Int) < (l1.length : Int) := by omega
        have st1 := st_StR wr (W.heap.size + 1) zS #[.int .i64 0, .int .i64 0, .int .i64 0, .int .i64 0, .slice none 0 0, .slice none 0 0] rfl rfl (by simp [Value.oneCell']) HI.out.2.1
        obtain ⟨Y, hY⟩ : ∃ Y, wr.setRow (W.heap.size + 1) #[.int .i64 0, .int .i64 0, .int .i64 0, .int .i64 0, .slice none 0 0, .slice none 0 0] = Y := ⟨_, rfl⟩
        have yr : Y.heap[W.heap.size + 1]? = some (.cells zS 30 (0, 0)) := by rw [← hY]; exact setRow_heap _ _ _ _ _ _ HI.out.2.1
        have yb : Below W.heap.size W Y := by rw [← hY]; exact ⟨HI.out.2.2.2.1.os, HI.out.2.2.2.1.tape, HI.out.2.2.2.1.output, by rw [size_setRow]; exact HI.out.2.2.2.1.size, fun k hk => (setRow_other _ _ _ _ (by omega)).trans (HI.out.2.2.2.1.block k hk)⟩
        rw [hY] at st1
        have HY := mkHid (And.intro yr yb)
        clear yr yb hY
        go_wp2_with fail
        refine bodyPost_ret (results_Rd _ _ (W.heap.size + 1) zS _ _ _ rfl rfl rfl rfl rfl HY.out.1) rfl ?_
        refine ⟨HY.out.2, _, _, _, _, _, _, 1, 1, 0, rfl, ?_⟩
        rw [rep_long1 (HI.out.2.2.2.2.1 (Nat.le_refl _)).1 (HI.out.2.2.2.2.1 (Nat.le_refl _)).2.1 hlg]
        exact ⟨rfl, rfl, rfl, rfl⟩
      · have hlg2 : ¬ (67108864 : Int) < (l1.length : Int) := by omega
        have CF := readR_any wr (HF.out.2.1.below HI.out.2.2.2.1) (by omega)
        go_wp2_with fail
        refine CF.mono ?_
        rintro e w ⟨hb, c, rfl, hTo⟩
        clear CF
        obtain ⟨ab, at_, cb, ct, stt, pl, rfl, hL, hM, hm⟩ := hTo
        have bW : Below W.heap.size W w := HI.out.2.2.2.1.trans (hb.mono HI.out.2.2.2.1.size)
        have k0 := (hb.block _ (by omega)).trans HI.out.1
        have k1 := (hb.block _ (by omega)).trans HI.out.2.1
        have k2 := (hb.block _ hsz).trans HI.out.2.2.1
        have hS := st_Td w (W.heap.size + 1 + 1) 8 #[.bool (file crcN l1).1.live, .int .i64 ((file crcN l1).1.good : Int), .int .i64 ((file crcN l1).1.gen : Int), .int .i64 ((file crcN l1).1.first : Int), .slice ab (file crcN l1).1.base.length cb, .slice at_ (file crcN l1).1.batches.length ct, .int .i64 (stt : Int), .int .i64 (pl : Int)] rfl (by simp [Value.oneCell']) (ar16_there k2).2
        have hset := ar16_set1 (.bool (file crcN l1).1.live) (.int .i64 ((file crcN l1).1.good : Int)) (.int .i64 ((file crcN l1).1.gen : Int)) (.int .i64 ((file crcN l1).1.first : Int)) (.slice ab (file crcN l1).1.base.length cb) (.slice at_ (file crcN l1).1.batches.length ct) (.int .i64 (stt : Int)) (.int .i64 (pl : Int)) k2
        rw [show (#[.bool (file crcN l1).1.live, .int .i64 ((file crcN l1).1.good : Int), .int .i64 ((file crcN l1).1.gen : Int), .int .i64 ((file crcN l1).1.first : Int), .slice ab (file crcN l1).1.base.length cb, .slice at_ (file crcN l1).1.batches.length ct, .int .i64 (stt : Int), .int .i64 (pl : Int)] : Array Value).toList = [.bool (file crcN l1).1.live, .int .i64 ((file crcN l1).1.good : Int), .int .i64 ((file crcN l1).1.gen : Int), .int .i64 ((file crcN l1).1.first : Int), .slice ab (file crcN l1).1.base.length cb, .slice at_ (file crcN l1).1.batches.length ct, .int .i64 (stt : Int), .int .i64 (pl : Int)] from rfl] at hS
        obtain ⟨Y, hY⟩ : ∃ Y, w.setCells (W.heap.size + 1 + 1) 8 [.bool (file crcN l1).1.live, .int .i64 ((file crcN l1).1.good : Int), .int .i64 ((file crcN l1).1.gen : Int), .int .i64 ((file crcN l1).1.first : Int), .slice ab (file crcN l1).1.base.length cb, .slice at_ (file crcN l1).1.batches.length ct, .int .i64 (stt : Int), .int .i64 (pl : Int)] = Y := ⟨_, rfl⟩
        rw [hY] at hS hset
        have hTD : TdP W.heap.size w l1 (tdA (file crcN l1).1 (.slice ab (file crcN l1).1.base.length cb) (.slice at_ (file crcN l1).1.batches.length ct) stt pl) := ⟨ab, at_, cb, ct, stt, pl, rfl, hL.mono HI.out.2.2.2.1.size, hM.mono HI.out.2.2.2.1.size, hm⟩
        have yT := hTD.keep (stay_ty k2 tysT hset.2)
        have yO := fun (h : Okd W.heap.size wr l0 #[x0, x1, x2, x3, x4, x5, x6, x7]) => (h.keep (stay_below hb)).keep (stay_ty k2 tysT hset.2)
        have hwz := hb.size
        have y1 : Y.heap[W.heap.size + 1]? = some (.cells zS 30 (0, 0)) := (hset.2.block _ (by omega) (by omega)).trans k1
        have yd := (hset.2.block W.heap.size (by omega) (by omega)).trans k0
        have yb : Below W.heap.size W Y := ⟨hset.2.os.trans bW.os, hset.2.tape.trans bW.tape, hset.2.output.trans bW.output, Nat.le_trans bW.size hset.2.size, fun k hk => (hset.2.block k (by omega) (by omega)).trans (bW.block k hk)⟩
        have p6 : Y.cell? ⟨W.heap.size + 1 + 1, 14, none⟩ = some (.int .i64 (stt : Int)) := (cell_of_row _ _ _ _ _ _ hset.1).trans rfl
        have p7 : Y.cell? ⟨W.heap.size + 1 + 1, 15, none⟩ = some (.int .i64 (pl : Int)) := (cell_of_row _ _ _ _ _ _ hset.1).trans rfl
        have st1 := st_StR Y (W.heap.size + 1) zS #[.int .i64 0, .int .i64 0, .int .i64 0, .int .i64 0, .slice none 0 0, .slice none 0 0] rfl rfl (by simp [Value.oneCell']) y1
        cases hR : (file crcN l1).2 with
        | some p =>
          rw [hR] at hm
          obtain ⟨rfl, rfl⟩ := hm
          obtain ⟨Z, hZ⟩ : ∃ Z, Y.setRow (W.heap.size + 1) #[.int .i64 0, .int .i64 0, .int .i64 0, .int .i64 0, .slice none 0 0, .slice none 0 0] = Z := ⟨_, rfl⟩
          have zr : Z.heap[W.heap.size + 1]? = some (.cells zS 30 (0, 0)) := by rw [← hZ]; exact setRow_heap _ _ _ _ _ _ y1
          have zb : Below W.heap.size W Z := by rw [← hZ]; exact ⟨yb.os, yb.tape, yb.output, by rw [size_setRow]; exact yb.size, fun k hk => (setRow_other _ _ _ _ (by omega)).trans (yb.block k hk)⟩
          have E := fun (x : World) (h : x.heap = Z.heap ∧ x.os = Z.os ∧ x.tape = Z.tape ∧ x.output = Z.output) => (show x.heap[W.heap.size + 1]? = some (.cells zS 30 (0, 0)) ∧ Below W.heap.size W x from ⟨by rw [h.1]; exact zr, ⟨h.2.1.trans zb.os, h.2.2.1.trans zb.tape, h.2.2.2.trans zb.output, by rw [h.1]; exact zb.size, fun k hk => by rw [h.1]; exact zb.block k hk⟩⟩)
          rw [hZ] at st1
          have HZ := mkHid (And.intro zr (And.intro zb E))
          have HP := mkHid (show Y.drew.heap[W.heap.size + 1]? = some (.cells zS 30 (0, 0)) from y1)
          clear zr zb E y1 yb yd yT yO hset hTD hL hM k0 k1 k2 bW hb hY
          rw [show ((2 : Nat) : Int) = 2 from rfl] at p6 hS
          dsimp only [tdA]
          rw [show ((2 : Nat) : Int) = 2 from rfl]
          by_cases hp0 : pl = 0
          · subst hp0
            rw [show ((0 : Nat) : Int) = 0 from rfl] at p7 hS
            rw [show ((0 : Nat) : Int) = 0 from rfl]
            clear hZ
            go_wp2_with fail
            refine bodyPost_ret (results_Rd _ _ (W.heap.size + 1) zS _ _ _ rfl rfl rfl rfl rfl HZ.out.1) rfl ?_
            refine ⟨HZ.out.2.1, _, _, _, _, _, _, 110, 1, 0, rfl, ?_⟩
            rw [rep_bad1 (HI.out.2.2.2.2.1 (Nat.le_refl _)).1 (HI.out.2.2.2.2.1 (Nat.le_refl _)).2.1 hlg hR]
            exact ⟨rfl, rfl, rfl, rfl⟩
          · have hp1 : ((pl : Int) == 0) = false := by rw [show ((0 : Int)) = ((0 : Nat) : Int) from rfl]; exact beqF hp0
            have std := st_StR Y.drew (W.heap.size + 1) zS #[.int .i64 0, .int .i64 0, .int .i64 0, .int .i64 0, .slice none 0 0, .slice none 0 0] rfl rfl (by simp [Value.oneCell']) HP.out
            obtain ⟨Zd, hZd⟩ : ∃ Zd, Y.drew.setRow (W.heap.size + 1) #[.int .i64 0, .int .i64 0, .int .i64 0, .int .i64 0, .slice none 0 0, .slice none 0 0] = Zd := ⟨_, rfl⟩
            have hE := HZ.out.2.2 Zd (by rw [← hZd, ← hZ]; exact ⟨rfl, rfl, rfl, rfl⟩)
            have p7z : Zd.cell? ⟨W.heap.size + 1 + 1, 15, none⟩ = some (.int .i64 (pl : Int)) := by
              rw [← hZd]
              exact (World.cell?_of_block (w := Y) (a := ⟨W.heap.size + 1 + 1, 15, none⟩) (setRow_other Y.drew _ _ _ (by show W.heap.size + 1 + 1 ≠ W.heap.size + 1; omega))).trans p7
            rw [hZd] at std
            replace hE := mkHid hE
            clear st1 hZ hZd
            go_wp2_with fail
            go_region
            go_wp2_with fail
            refine bodyPost_ret (results_Rd _ _ (W.heap.size + 1) zS _ _ _ rfl rfl rfl rfl rfl hE.out.1) rfl ?_
            refine ⟨hE.out.2, _, _, _, _, _, _, 112, 1, pl, rfl, ?_⟩
            rw [rep_bad1 (HI.out.2.2.2.2.1 (Nat.le_refl _)).1 (HI.out.2.2.2.2.1 (Nat.le_refl _)).2.1 hlg hR]
            exact ⟨rfl, by unfold errOf; rw [if_neg hp0], rfl, rfl⟩
        | none =>
          rw [hR] at hm
          have hs2 : ((stt : Int) == 2) = false := by rw [show ((2 : Int)) = ((2 : Nat) : Int) from rfl]; exact beqF (by omega)
          have HY := mkHid (And.intro yd (And.intro y1 (And.intro hset.1 (And.intro yb (And.intro yT (And.intro yO hR))))))
          clear y1 hset yb yT yO hR k0 k1 k2 bW hTD hL hM hb hY hm yd st1
          dsimp only [tdA]
          go_wp2_with fail
          exact ⟨⟨2, _, _, _, _, _, _, _, _, _, _, _, _, _, _, _, _, rfl, by omega, HY.out.1, HY.out.2.1, HY.out.2.2.1, HY.out.2.2.2.1, fun _ => HY.out.2.2.2.2.2.1 (HI.out.2.2.2.2.1 (Nat.le_refl _)), fun _ => ⟨hlg, HY.out.2.2.2.2.2.2, HY.out.2.2.2.2.1⟩⟩, by decide⟩
    | 2, hi, HI =>
      have ci : ¬ ((2 : Nat) : Int) < 2 := by decide
      obtain ⟨k0, k1, k2, k3, k4, k5⟩ := HI.out
      have f0 := k4 (by omega)
      have f1 := k5 (by omega)
      have hrp := rep_pick f0.1 f0.2.1 f1.1 f1.2.1
      obtain ⟨ab, at_, cb, ct, stt, pl, he, hL, hM, -⟩ := f0.2.2
      obtain ⟨ab2, at2, cb2, ct2, stt2, pl2, he2, hL2, hM2, -⟩ := f1.2.2
      simp only [tdA, Array.mk.injEq, List.cons.injEq, and_true] at he he2
      obtain ⟨rfl, rfl, rfl, rfl, rfl, rfl, rfl, rfl⟩ := he
      obtain ⟨rfl, rfl, rfl, rfl, rfl, rfl, rfl, rfl⟩ := he2
      have a0 : wr.cell? ⟨W.heap.size + 1 + 1, 0, none⟩ = some (.bool (file crcN l0).1.live) := (cell_of_row _ _ _ _ _ _ k2).trans rfl
      have a2 : wr.cell? ⟨W.heap.size + 1 + 1, 2, none⟩ = some (.int .i64 ((file crcN l0).1.gen : Int)) := (cell_of_row _ _ _ _ _ _ k2).trans rfl
      have d0 : wr.cell? ⟨W.heap.size + 1 + 1, 8, none⟩ = some (.bool (file crcN l1).1.live) := (cell_of_row _ _ _ _ _ _ k2).trans rfl
      have d2 : wr.cell? ⟨W.heap.size + 1 + 1, 10, none⟩ = some (.int .i64 ((file crcN l1).1.gen : Int)) := (cell_of_row _ _ _ _ _ _ k2).trans rfl
      have L1 := ld_Td wr (W.heap.size + 1 + 1) 0 _ rfl (ar16_range k2).1
      have L2 := ld_Td wr (W.heap.size + 1 + 1) 8 _ rfl (ar16_range k2).2
      have P0 := pick_end (f := 0) (stt := stt) (pl := pl) k3 k1 hL hM
      have P1 := pick_end (f := 1) (stt := stt2) (pl := pl2) k3 k1 hL2 hM2
      unfold tdA at P0 P1
      rw [show ((0 : Nat) : Int) = 0 from rfl] at P0 P1
      rw [show ((1 : Nat) : Int) = 1 from rfl] at P1
      have S0 := st_StR wr (W.heap.size + 1) zS #[.int .i64 0, .int .i64 0, .int .i64 0, .int .i64 0, .slice none 0 0, .slice none 0 0] rfl rfl (by simp [Value.oneCell']) k1
      have S1 := st_StR wr (W.heap.size + 1) zS #[.int .i64 (-1), .int .i64 0, .int .i64 0, .int .i64 0, .slice none 0 0, .slice none 0 0] rfl rfl (by simp [Value.oneCell']) k1
      have HW := mkHid (And.intro k1 k3)
      replace hrp := mkHid hrp
      replace P0 := mkHid P0
      replace P1 := mkHid P1
      clear k0 k1 k2 k3 k4 k5 f0 f1 hL hM hL2 hM2
      by_cases hl0 : (file crcN l0).1.live = true
      · have gen0 := file_gen hl0
        rw [hl0] at a0 L1 P0
        by_cases hl1 : (file crcN l1).1.live = true
        · have gen1 := file_gen hl1
          rw [hl1] at d0 L2 P1
          by_cases hge : (file crcN l0).1.gen = (file crcN l1).1.gen
          · have hb := beqT hge
            replace hge := mkHid hge
            have hq : rep l0 l1 = .err 112 1 0 := by rw [hrp.out]; unfold pick; rw [if_pos ⟨hl0, hl1, hge.out⟩]
            have AE := ans_end (X := .err 112 1 0) (c := #[.int .i64 0, .int .i64 0, .int .i64 0, .int .i64 0, .slice none 0 0, .slice none 0 0]) HW.out.2 HW.out.1 rfl 112 1 0 ⟨rfl, rfl, rfl, rfl⟩
            rw [← hq] at AE
            replace AE := mkHid AE
            clear hq
            go_wp2_with fail
            refine bodyPost_ret (results_Rd _ _ (W.heap.size + 1) _ _ _ _ rfl rfl rfl rfl rfl AE.out.1) rfl ?_
            exact AE.out.2
          · have hb := beqF hge
            replace hge := mkHid hge
            by_cases hlt : (file crcN l0).1.gen < (file crcN l1).1.gen
            · have hlt2 : ((file crcN l0).1.gen : Int) < ((file crcN l1).1.gen : Int) := by omega
              replace hlt := mkHid hlt
              have hq : rep l0 l1 = .story 1 (file crcN l1).1 := by rw [hrp.out]; unfold pick; rw [if_neg (fun h => hge.out h.2.2), if_pos ⟨hl1, .inr hlt.out⟩]
              obtain ⟨V2, V3, s1, q1, q2, q3, q4, q5, s2, r3, hans⟩ := P1.out
              rw [← hq] at hans
              have HA := mkHid (And.intro r3 hans)
              clear hq r3 hans P0 P1
              go_wp2_with fail
              refine bodyPost_ret (results_Rd _ _ (W.heap.size + 1) _ _ _ _ rfl rfl rfl rfl rfl HA.out.1) rfl ?_
              exact HA.out.2
            · have hlt2 : ¬ ((file crcN l0).1.gen : Int) < ((file crcN l1).1.gen : Int) := by omega
              replace hlt := mkHid hlt
              have hq : rep l0 l1 = .story 0 (file crcN l0).1 := by rw [hrp.out]; unfold pick; rw [if_neg (fun h => hge.out h.2.2), if_neg (fun h => h.2.elim (fun h2 => by rw [hl0] at h2; cases h2) hlt.out), if_pos hl0]
              obtain ⟨V2, V3, s1, q1, q2, q3, q4, q5, s2, r3, hans⟩ := P0.out
              rw [← hq] at hans
              have HA := mkHid (And.intro r3 hans)
              clear hq r3 hans P0 P1
              go_wp2_with fail
              refine bodyPost_ret (results_Rd _ _ (W.heap.size + 1) _ _ _ _ rfl rfl rfl rfl rfl HA.out.1) rfl ?_
              exact HA.out.2
        · have hf1 := bfalse hl1
          rw [hf1] at d0
          have hq : rep l0 l1 = .story 0 (file crcN l0).1 := by rw [hrp.out]; unfold pick; rw [if_neg (fun h => hl1 h.2.1), if_neg (fun h => hl1 h.1), if_pos hl0]
          obtain ⟨V2, V3, s1, q1, q2, q3, q4, q5, s2, r3, hans⟩ := P0.out
          rw [← hq] at hans
          have HA := mkHid (And.intro r3 hans)
          clear hq r3 hans P0 P1
          go_wp2_with fail
          refine bodyPost_ret (results_Rd _ _ (W.heap.size + 1) _ _ _ _ rfl rfl rfl rfl rfl HA.out.1) rfl ?_
          exact HA.out.2
      · have hf0 := bfalse hl0
        rw [hf0] at a0
        by_cases hl1 : (file crcN l1).1.live = true
        · rw [hl1] at d0 L2 P1
          have hq : rep l0 l1 = .story 1 (file crcN l1).1 := by rw [hrp.out]; unfold pick; rw [if_neg (fun h => hl0 h.1), if_pos ⟨hl1, .inl hf0⟩]
          obtain ⟨V2, V3, s1, q1, q2, q3, q4, q5, s2, r3, hans⟩ := P1.out
          rw [← hq] at hans
          have HA := mkHid (And.intro r3 hans)
          clear hq r3 hans P0 P1
          go_wp2_with fail
          refine bodyPost_ret (results_Rd _ _ (W.heap.size + 1) _ _ _ _ rfl rfl rfl rfl rfl HA.out.1) rfl ?_
          exact HA.out.2
        · have hf1 := bfalse hl1
          rw [hf1] at d0
          have hq : rep l0 l1 = .none := by rw [hrp.out]; unfold pick; rw [if_neg (fun h => hl0 h.1), if_neg (fun h => hl1 h.1), if_neg hl0]
          have AE := ans_end (X := .none) (c := #[.int .i64 (-1), .int .i64 0, .int .i64 0, .int .i64 0, .slice none 0 0, .slice none 0 0]) HW.out.2 HW.out.1 rfl 0 0 0 ⟨rfl, rfl, rfl, rfl⟩
          rw [← hq] at AE
          replace AE := mkHid AE
          clear hq
          go_wp2_with fail
          refine bodyPost_ret (results_Rd _ _ (W.heap.size + 1) _ _ _ _ rfl rfl rfl rfl rfl AE.out.1) rfl ?_
          exact AE.out.2
end Go.Proofs.YtlhpkpedooklnaaDoor
