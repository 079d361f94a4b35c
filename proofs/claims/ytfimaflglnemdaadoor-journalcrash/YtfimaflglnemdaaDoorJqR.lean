/- Several texts in one: JcK, JcL, JcN. -/
import Derived.Test.YtfimaflglnemdaaDoorJqQ
/- JournalCrash: the law's sameLists, decided both ways. -/
namespace Go.Proofs.YtfimaflglnemdaaDoor
open Go.RowKit
open JM
set_option maxRecDepth 20000
theorem map_inj2 {a b : List Nat} (ha : Byt a) (hb : Byt b) (e : a.map UInt8.ofNat = b.map UInt8.ofNat) : a = b := by
  induction a generalizing b with
  | nil =>
    cases b with
    | nil => rfl
    | cons y s => cases e
  | cons x r ih =>
    cases b with
    | nil => cases e
    | cons y s =>
      simp only [List.map_cons, List.cons.injEq] at e
      have hx := ha x (by simp)
      have hy := hb y (by simp)
      have e1 := congrArg UInt8.toNat e.1
      simp only [UInt8.toNat_ofNat'] at e1
      rw [ih (fun z hz => ha z (by simp [hz])) (fun z hz => hb z (by simp [hz])) e.2]
      congr 1
      omega
theorem mkS_list2 (x : List Nat) : (mkS x).toList = x.map UInt8.ofNat := by unfold mkS; exact ByteArray.toList_mk _
theorem mkS_ne {a b : List Nat} (ha : Byt a) (hb : Byt b) (h : a ≠ b) : ((mkS a).toList == (mkS b).toList) = false := by
  rw [mkS_list2, mkS_list2, beq_eq_false_iff_ne]
  exact fun e => h (map_inj2 ha hb e)
attribute [local go_sem ↓] toCvS in
set_option maxRecDepth 100000 in
set_option maxHeartbeats 3200000 in
theorem sameLists_any (W : World) {B B' : Nat} {a b : Value} {ls lt : List (List Nat)} (ha : Ll B W a ls) (hb : Ll B' W b lt) (hlim : ls.length ≤ 1000000000) : Calls Tryd.prog 15 #[a, b] W fun e w' => e = .returned (.bool (decide (ls = lt))) ∧ ∃ m, w' = W.drewN m := by
  obtain ⟨oa, ca, rfl⟩ := ha.sl
  obtain ⟨ob, cb, rfl⟩ := hb.sl
  by_cases hlen : ls.length = lt.length
  case neg =>
    have hlen2 : ¬ (ls.length : Int) = (lt.length : Int) := by omega
    have hne : decide (ls = lt) = false := by rw [decide_eq_false]; intro e; exact hlen (by rw [e])
    rw [hne]
    clear ha hb hne
    go_enter Tryd.func15, Tryd.ntmps15
    go_wp2_with fail
    go_ret
    exact ⟨rfl, 0, rfl⟩
  have HA := mkHid (And.intro ha hb)
  clear ha hb
  obtain ⟨N, hN⟩ : ∃ N, ls.length = N := ⟨_, rfl⟩
  have hN2 : lt.length = N := by omega
  rw [hN] at hlim
  rw [hN, hN2]
  clear hlen
  go_enter Tryd.func15, Tryd.ntmps15
  go_wp2_with fail
  go_loopw [5] (fun iv wr => ∃ i : Nat, iv = .int .i64 (i : Int) ∧ i ≤ N ∧ Hid ((∃ m, wr = W.drewN m) ∧ ls.take i = lt.take i)) (fun iv _ => N - (intOf iv).toNat)
  case atStart => exact ⟨0, rfl, Nat.zero_le _, ⟨0, rfl⟩, by simp⟩
  case round =>
    obtain ⟨i, rfl, hi, HI⟩ := hrel
    by_cases hlt : i < N
    · have hlt2 : (i : Int) < (N : Int) := by omega
      have hi0 : (0 : Int) ≤ (i : Int) := by omega
      obtain ⟨⟨m0, hm0⟩, htk⟩ := HI.out
      have hla : i < ls.length := by omega
      have hlb : i < lt.length := by omega
      obtain ⟨ga, c, x, e1, c1, o1⟩ := HA.out.1.get hla
      obtain ⟨gb, c', y, e2, c2, o2⟩ := HA.out.2.get hlb
      injection e1 with e1 el ec
      injection e2 with e2 el2 ec2
      clear el el2
      subst e1 e2 ec ec2
      have hdr : ∀ m, Below W.heap.size W (wr.drewN m) := fun m => by rw [hm0]; exact below_drewN (below_drewN (Below.refl _ _) _) _
      have d1 : ∀ m, (wr.drewN m).cell? ⟨ga, i, none⟩ = some x := fun m => cell_below (hdr m) c1
      have d2 : ∀ m, (wr.drewN m).cell? ⟨gb, i, none⟩ = some y := fun m => cell_below (hdr m) c2
      have q1 : ∀ m, (cvS x).run Tryd.prog (wr.drewN m) = .ok (.string (mkS ls[i])) (wr.drewN m) := fun m => cv_bl (o1.bl.below (hdr m))
      have q2 : ∀ m, (cvS y).run Tryd.prog (wr.drewN m) = .ok (.string (mkS lt[i])) (wr.drewN m) := fun m => cv_bl (o2.bl.below (hdr m))
      have hS2 : ls[i] ≠ lt[i] → ((mkS ls[i]).toList == (mkS lt[i]).toList) = false := fun hne => mkS_ne o1.2 o2.2 hne
      have tka : ls.take (i + 1) = ls.take i ++ [ls[i]] := by rw [List.take_add_one, List.getElem?_eq_getElem hla]; rfl
      have tkb : lt.take (i + 1) = lt.take i ++ [lt[i]] := by rw [List.take_add_one, List.getElem?_eq_getElem hlb]; rfl
      have hnq : ls[i] ≠ lt[i] → ls ≠ lt := fun hne e => hne (by subst e; rfl)
      obtain ⟨S, hS⟩ : ∃ S, mkS ls[i] = S := ⟨_, rfl⟩
      obtain ⟨T, hT⟩ : ∃ T, mkS lt[i] = T := ⟨_, rfl⟩
      rw [hS] at q1 hS2
      rw [hT] at q2 hS2
      obtain ⟨ox, cx, rfl⟩ := o1.sl
      obtain ⟨oy, cy, rfl⟩ := o2.sl
      obtain ⟨n, hn⟩ : ∃ n, ls[i].length = n := ⟨_, rfl⟩
      obtain ⟨n', hn'⟩ : ∃ n, lt[i].length = n := ⟨_, rfl⟩
      rw [hn] at q1 d1
      rw [hn'] at q2 d2
      have HM := mkHid hm0
      by_cases hE : ls[i] = lt[i]
      · have hST : S = T := by rw [← hS, ← hT, hE]
        subst hST
        have htk2 : ls.take (i + 1) = lt.take (i + 1) := by rw [tka, tkb, htk, hE]
        have HT := mkHid htk2
        clear hm0 hdr o1 o2 c1 c2 hS hn hn' hT hE hS2 tka tkb hnq htk htk2
        go_wp2_with fail
        go_quiet (fail)
        go_wp2_with fail
        exact ⟨⟨i + 1, by simp, by omega, by rw [HM.out, World.drewN_drewN]; exact ⟨_, rfl⟩, HT.out⟩, by simp only [intOf]; omega⟩
      · have hST : (S.toList == T.toList) = false := hS2 hE
        have hnl := mkHid (hnq hE)
        clear hm0 hdr o1 o2 c1 c2 hS hn hn' hT hE hS2 tka tkb hnq htk
        go_wp2_with fail
        go_quiet (fail)
        go_wp2_with fail
        go_ret
        exact ⟨by rw [decide_eq_false hnl.out]; rfl, by rw [HM.out, World.drewN_drewN]; exact ⟨_, rfl⟩⟩
    · have hlt2 : ¬ (i : Int) < (N : Int) := by omega
      go_wp2_with fail
      go_ret
      have e : ls = lt := by
        have := HI.out.2
        rwa [List.take_of_length_le (by omega), List.take_of_length_le (by omega)] at this
      exact ⟨by rw [decide_eq_true e]; rfl, HI.out.1⟩
end Go.Proofs.YtfimaflglnemdaaDoor

/- JournalCrash: the law's holds, decided both ways, of a disk with a journal. -/
namespace Go.Proofs.YtfimaflglnemdaaDoor
open Go.RowKit
open JM
set_option maxRecDepth 20000
set_option maxRecDepth 100000 in
set_option maxHeartbeats 3200000 in
theorem holds_any (W : World) {B B' i good gen first last : Nat} {u0 u1 t4 t5 : Value} {bl : List (List Nat)} {bl' : List (List Nat)} {bt bt' : List (List (List Nat))} (h4 : Ll B W u0 bl) (h5 : Lb B W u1 bt) (k4 : Ll B' W t4 bl') (k5 : Lb B' W t5 bt') (hl4 : bl.length ≤ 1000000000) (hl : ∀ x ∈ bt, x.length ≤ 1000000000) (hf : 1 ≤ first) (hf2 : first ≤ 1000000000) (hl6 : bt'.length ≤ 1000000000) :
    Calls Tryd.prog 38 #[.agg (bkA u0 u1 last), .agg (styA i good gen first t4 t5)] W fun e w' => e = .returned (.bool (decide (bl = bl' ∧ bt = bt' ∧ first - 1 + bt'.length = last))) ∧ Below W.heap.size W w' := by
  obtain ⟨R, hR⟩ : ∃ R, decide (bl = bl' ∧ bt = bt' ∧ first - 1 + bt'.length = last) = R := ⟨_, rfl⟩
  rw [hR]
  replace hR := mkHid hR
  obtain ⟨o4, c4, rfl⟩ := h4.sl
  obtain ⟨o5, c5, rfl⟩ := h5.sl
  obtain ⟨p4, d4, rfl⟩ := k4.sl
  obtain ⟨p5, d5, rfl⟩ := k5.sl
  obtain ⟨V, hV⟩ : ∃ V, (W.alloc (.cells #[.slice o4 bl.length c4, .slice o5 bt.length c5, .int .i64 (last : Int)] 30)).alloc (.cells #[.int .i64 (i : Int), .int .i64 (good : Int), .int .i64 (gen : Int), .int .i64 (first : Int), .slice p4 bl'.length d4, .slice p5 bt'.length d5] 47) = V := ⟨_, rfl⟩
  have vb : Below W.heap.size W V := by rw [← hV]; exact below2 _ _ _
  have r0 := row2 W (.cells #[.slice o4 bl.length c4, .slice o5 bt.length c5, .int .i64 (last : Int)] 30) (.cells #[.int .i64 (i : Int), .int .i64 (good : Int), .int .i64 (gen : Int), .int .i64 (first : Int), .slice p4 bl'.length d4, .slice p5 bt'.length d5] 47)
  have r1 := row2n W (.cells #[.slice o4 bl.length c4, .slice o5 bt.length c5, .int .i64 (last : Int)] 30) (.cells #[.int .i64 (i : Int), .int .i64 (good : Int), .int .i64 (gen : Int), .int .i64 (first : Int), .slice p4 bl'.length d4, .slice p5 bt'.length d5] 47)
  rw [hV] at r0 r1
  have a0 : V.cell? ⟨W.heap.size, 0, none⟩ = some (.slice o4 bl.length c4) := (cell_of_row _ _ _ _ _ _ r0).trans rfl
  have a1 : V.cell? ⟨W.heap.size, 1, none⟩ = some (.slice o5 bt.length c5) := (cell_of_row _ _ _ _ _ _ r0).trans rfl
  have a2 : V.cell? ⟨W.heap.size, 2, none⟩ = some (.int .i64 (last : Int)) := (cell_of_row _ _ _ _ _ _ r0).trans rfl
  have e0 : V.cell? ⟨W.heap.size + 1, 0, none⟩ = some (.int .i64 (i : Int)) := (cell_of_row _ _ _ _ _ _ r1).trans rfl
  have e3 : V.cell? ⟨W.heap.size + 1, 3, none⟩ = some (.int .i64 (first : Int)) := (cell_of_row _ _ _ _ _ _ r1).trans rfl
  have e4 : V.cell? ⟨W.heap.size + 1, 4, none⟩ = some (.slice p4 bl'.length d4) := (cell_of_row _ _ _ _ _ _ r1).trans rfl
  have e5 : V.cell? ⟨W.heap.size + 1, 5, none⟩ = some (.slice p5 bt'.length d5) := (cell_of_row _ _ _ _ _ _ r1).trans rfl
  have v4 := h4.keep (stay_below vb)
  have v5 := h5.keep (stay_below vb)
  have x4 := k4.keep (stay_below vb)
  have x5 := k5.keep (stay_below vb)
  have CB := sameLists_any V v4 x4 hl4
  have HV := mkHid (And.intro v5 (And.intro x5 (And.intro vb hl)))
  have hi1 : ¬ (i : Int) < 0 := by omega
  unfold bkA styA
  clear h4 h5 k4 k5 r0 r1 v4 v5 x4 x5 vb hl
  go_enter Tryd.func38, Tryd.ntmps38
  go_upto_region 1 with fail
  try rw [hV]
  clear hV
  go_wp2_with fail
  refine CB.mono ?_
  rintro e w ⟨rfl, m1, hm1⟩
  dsimp only
  clear CB
  have wb1 : Below V.heap.size V w := by rw [hm1]; exact below_drewN (Below.refl _ _) _
  have HB1 := mkHid (HV.out.2.2.1.trans (wb1.mono HV.out.2.2.1.size))
  have a1w := cell_below wb1 a1
  have a2w := cell_below wb1 a2
  have e3w := cell_below wb1 e3
  have e5w := cell_below wb1 e5
  clear wb1
  replace hm1 := mkHid hm1
  by_cases A : bl = bl'
  case neg =>
    rw [decide_eq_false A]
    have hRf := mkHid (show R = false by rw [← hR.out, decide_eq_false]; exact fun h => A h.1)
    go_wp2_with fail
    go_ret
    exact ⟨by rw [hRf.out]; rfl, HB1.out⟩
  rw [decide_eq_true A]
  by_cases Bn : bt.length = bt'.length
  case neg =>
    have Bn2 : ¬ (bt.length : Int) = (bt'.length : Int) := by omega
    have hRf := mkHid (show R = false by rw [← hR.out, decide_eq_false]; exact fun h => Bn (by rw [h.2.1]))
    clear Bn
    go_wp2_with fail
    go_ret
    exact ⟨by rw [hRf.out]; rfl, HB1.out⟩
  by_cases Lq : first - 1 + bt'.length = last
  case neg =>
    have hq1 : ((first : Int) - 1 + (bt'.length : Int) == (last : Int)) = false := by rw [beq_eq_false_iff_ne]; omega
    have hq2 : IntKind.i64.wrap ((first : Int) - 1) = (first : Int) - 1 := by rw [IntKind.wrap_i64]; omega
    have hq3 : IntKind.i64.wrap ((first : Int) - 1 + (bt'.length : Int)) = (first : Int) - 1 + (bt'.length : Int) := by rw [IntKind.wrap_i64]; omega
    have Bn2 : (bt.length : Int) = (bt'.length : Int) := by omega
    have hRf := mkHid (show R = false by rw [← hR.out, decide_eq_false]; exact fun h => Lq h.2.2)
    clear Lq
    go_wp2_with fail
    go_ret
    exact ⟨by rw [hRf.out]; rfl, HB1.out⟩
  have hq1 : ((first : Int) - 1 + (bt'.length : Int) == (last : Int)) = true := by rw [beq_iff_eq]; omega
  have Bn2 : (bt.length : Int) = (bt'.length : Int) := by omega
  have hdec : decide (bl = bl' ∧ bt = bt' ∧ first - 1 + bt'.length = last) = decide (bt = bt') := by
    rw [decide_eq_decide]
    exact ⟨fun h => h.2.1, fun h => ⟨A, h, Lq⟩⟩
  rw [hdec] at hR
  clear hdec
  go_wp2_with fail
  go_loopw [5] (fun iv wr => ∃ i : Nat, iv = .int .i64 (i : Int) ∧ i ≤ bt'.length ∧ Hid ((∃ m, wr = V.drewN m) ∧ bt.take i = bt'.take i)) (fun iv _ => bt'.length - (intOf iv).toNat)
  case atStart => exact ⟨0, rfl, Nat.zero_le _, ⟨m1, hm1.out⟩, by simp⟩
  case round =>
    obtain ⟨i, rfl, hi, HI⟩ := hrel
    obtain ⟨⟨m0, hm0⟩, htk⟩ := HI.out
    have wb : Below V.heap.size V wr := by rw [hm0]; exact below_drewN (Below.refl _ _) _
    have b5 := cell_below wb a1
    have f5 := cell_below wb e5
    by_cases hlt : i < bt'.length
    · have hlt2 : (i : Int) < (bt'.length : Int) := by omega
      have hlt3 : (i : Int) < (bt.length : Int) := by omega
      have hi0 : (0 : Int) ≤ (i : Int) := by omega
      have hla : i < bt.length := by omega
      obtain ⟨ga, c, x, q1, c1, o1⟩ := HV.out.1.get hla
      obtain ⟨gb, c', y, q2, c2, o2⟩ := HV.out.2.1.get hlt
      injection q1 with q1 el ec
      injection q2 with q2 el2 ec2
      clear el el2
      subst q1 q2 ec ec2
      have CL := mkHid (fun m => sameLists_any (wr.drewN m) (o1.keep (stay_below (below_drewN wb m))) (o2.keep (stay_below (below_drewN wb m))) (HV.out.2.2.2 _ (List.getElem_mem hla)))
      have g1 := cell_below wb c1
      have g2 := cell_below wb c2
      have tka : bt.take (i + 1) = bt.take i ++ [bt[i]] := by rw [List.take_add_one, List.getElem?_eq_getElem hla]; rfl
      have tkb : bt'.take (i + 1) = bt'.take i ++ [bt'[i]] := by rw [List.take_add_one, List.getElem?_eq_getElem hlt]; rfl
      have hnq : bt[i] ≠ bt'[i] → bt ≠ bt' := fun hne e => hne (by subst e; rfl)
      have HM := mkHid hm0
      obtain ⟨ox, cx, rfl⟩ := o1.sl
      obtain ⟨oy, cy, rfl⟩ := o2.sl
      by_cases hE : bt[i] = bt'[i]
      · rw [decide_eq_true hE] at CL
        have HT := mkHid (show bt.take (i + 1) = bt'.take (i + 1) by rw [tka, tkb, htk, hE])
        obtain ⟨n, hn⟩ : ∃ n, bt[i].length = n := ⟨_, rfl⟩
        obtain ⟨n', hn'⟩ : ∃ n, bt'[i].length = n := ⟨_, rfl⟩
        rw [hn] at CL g1
        rw [hn'] at CL g2
        clear o1 o2 hn hn' c1 c2 wb hm0 tka tkb hnq hE htk
        go_wp2_with fail
        go_quiet ((go_at_call 15; exact Calls.quiet_of (CL.out _)))
        go_wp2_with fail
        exact ⟨⟨i + 1, by simp, by omega, by rw [HM.out, World.drewN_drewN]; exact ⟨_, rfl⟩, HT.out⟩, by simp only [intOf]; omega⟩
      · rw [decide_eq_false hE] at CL
        have hnl := mkHid (hnq hE)
        obtain ⟨n, hn⟩ : ∃ n, bt[i].length = n := ⟨_, rfl⟩
        obtain ⟨n', hn'⟩ : ∃ n, bt'[i].length = n := ⟨_, rfl⟩
        rw [hn] at CL g1
        rw [hn'] at CL g2
        have HB := mkHid (HV.out.2.2.1.trans (wb.mono HV.out.2.2.1.size))
        clear o1 o2 hn hn' c1 c2 wb hm0 tka tkb hnq hE htk
        go_wp2_with fail
        go_quiet ((go_at_call 15; exact Calls.quiet_of (CL.out _)))
        go_wp2_with fail
        go_ret
        exact ⟨by rw [← hR.out, decide_eq_false hnl.out]; rfl, HB.out.trans ((below_drewN (Below.refl _ wr) _).mono HB.out.size)⟩
    · have hlt2 : ¬ (i : Int) < (bt'.length : Int) := by omega
      have HB := mkHid (HV.out.2.2.1.trans (wb.mono HV.out.2.2.1.size))
      have e : bt = bt' := by rwa [List.take_of_length_le (by omega), List.take_of_length_le (by omega)] at htk
      clear hm0 htk
      go_wp2_with fail
      go_ret
      exact ⟨by rw [← hR.out, decide_eq_true e]; rfl, HB.out⟩
end Go.Proofs.YtfimaflglnemdaaDoor

/- JournalCrash: the law's holds, decided both ways, of a disk with none. -/
namespace Go.Proofs.YtfimaflglnemdaaDoor
open Go.RowKit
open JM
set_option maxRecDepth 20000
set_option maxRecDepth 100000 in
set_option maxHeartbeats 3200000 in
theorem holds_none (W : World) {B last : Nat} {u0 u1 : Value} {bl : List (List Nat)} {bt : List (List (List Nat))} (h4 : Ll B W u0 bl) (h5 : Lb B W u1 bt) :
    Calls Tryd.prog 38 #[.agg (bkA u0 u1 last), .agg #[.int .i64 (-1), .int .i64 0, .int .i64 0, .int .i64 0, .slice none 0 0, .slice none 0 0]] W fun e w' => e = .returned (.bool (decide (bl = [] ∧ bt = [] ∧ last = 0))) ∧ Below W.heap.size W w' := by
  obtain ⟨R, hR⟩ : ∃ R, decide (bl = [] ∧ bt = [] ∧ last = 0) = R := ⟨_, rfl⟩
  rw [hR]
  obtain ⟨o4, c4, rfl⟩ := h4.sl
  obtain ⟨o5, c5, rfl⟩ := h5.sl
  have e1 : bl = [] ↔ bl.length = 0 := List.length_eq_zero_iff.symm
  have e2 : bt = [] ↔ bt.length = 0 := List.length_eq_zero_iff.symm
  replace hR : decide (bl.length = 0 ∧ bt.length = 0 ∧ last = 0) = R := by rw [← hR, decide_eq_decide, e1, e2]
  clear e1 e2 h4 h5
  obtain ⟨n, hn⟩ : ∃ n, bl.length = n := ⟨_, rfl⟩
  obtain ⟨m, hm⟩ : ∃ m, bt.length = m := ⟨_, rfl⟩
  rw [hn, hm] at hR
  rw [hn, hm]
  clear hn hm
  obtain ⟨V, hV⟩ : ∃ V, (W.alloc (.cells #[.slice o4 n c4, .slice o5 m c5, .int .i64 (last : Int)] 30)).alloc (.cells #[.int .i64 (-1), .int .i64 0, .int .i64 0, .int .i64 0, .slice none 0 0, .slice none 0 0] 47) = V := ⟨_, rfl⟩
  have vb : Below W.heap.size W V := by rw [← hV]; exact below2 _ _ _
  have r0 := row2 W (.cells #[.slice o4 n c4, .slice o5 m c5, .int .i64 (last : Int)] 30) (.cells #[.int .i64 (-1), .int .i64 0, .int .i64 0, .int .i64 0, .slice none 0 0, .slice none 0 0] 47)
  have r1 := row2n W (.cells #[.slice o4 n c4, .slice o5 m c5, .int .i64 (last : Int)] 30) (.cells #[.int .i64 (-1), .int .i64 0, .int .i64 0, .int .i64 0, .slice none 0 0, .slice none 0 0] 47)
  rw [hV] at r0 r1
  have a0 : V.cell? ⟨W.heap.size, 0, none⟩ = some (.slice o4 n c4) := (cell_of_row _ _ _ _ _ _ r0).trans rfl
  have a1 : V.cell? ⟨W.heap.size, 1, none⟩ = some (.slice o5 m c5) := (cell_of_row _ _ _ _ _ _ r0).trans rfl
  have a2 : V.cell? ⟨W.heap.size, 2, none⟩ = some (.int .i64 (last : Int)) := (cell_of_row _ _ _ _ _ _ r0).trans rfl
  have e0 : V.cell? ⟨W.heap.size + 1, 0, none⟩ = some (.int .i64 (-1)) := (cell_of_row _ _ _ _ _ _ r1).trans rfl
  have HV := mkHid vb
  unfold bkA
  clear r0 r1 vb
  by_cases q0 : n = 0
  case neg =>
    have q0i : ¬ (n : Int) = 0 := by omega
    have hRf := mkHid (show R = false by rw [← hR, decide_eq_false]; exact fun h => q0 h.1)
    clear q0 hR
    go_enter Tryd.func38, Tryd.ntmps38
    go_upto_region 1 with fail
    try rw [hV]
    clear hV
    go_wp2_with fail
    go_ret
    exact ⟨by rw [hRf.out]; rfl, HV.out⟩
  subst q0
  by_cases q1 : m = 0
  case neg =>
    have q1i : ¬ (m : Int) = 0 := by omega
    have hRf := mkHid (show R = false by rw [← hR, decide_eq_false]; exact fun h => q1 h.2.1)
    clear q1 hR
    go_enter Tryd.func38, Tryd.ntmps38
    go_upto_region 1 with fail
    try rw [hV]
    clear hV
    go_wp2_with fail
    go_ret
    exact ⟨by rw [hRf.out]; rfl, HV.out⟩
  subst q1
  have hRf := mkHid (show R = ((last : Int) == 0) by
    rw [← hR]
    by_cases q : last = 0
    · subst q
      rfl
    · rw [decide_eq_false (fun h => q h.2.2), eq_comm, beq_eq_false_iff_ne]
      omega)
  clear hR
  go_enter Tryd.func38, Tryd.ntmps38
  go_upto_region 1 with fail
  try rw [hV]
  clear hV
  go_wp2_with fail
  go_ret
  exact ⟨by rw [hRf.out]; rfl, HV.out⟩
end Go.Proofs.YtfimaflglnemdaaDoor
