/- JournalReplays: the law's sameLists and sameStory, of what is the same. -/
import Derived.Test.YtlhpkpedooklnaaDoorJsN
namespace Go.Proofs.YtlhpkpedooklnaaDoor
open Go.RowKit
open JM
theorem own_get {w : World} {B e n i : Nat} {v x : Value} {vs : List Value} (h : w.ownsRow B e 1 v n vs) (hx : vs[i]? = some x) : ∃ g c, v = .slice (some ⟨g, 0, none⟩) n c ∧ w.cell? ⟨g, i, none⟩ = some x := by
  obtain ⟨h1, h2 | ⟨g, cap, cur, h2, h3, h4, h5, h6, h7, h8⟩⟩ := h
  · have := (List.getElem?_eq_some_iff.1 hx).1
    omega
  · refine ⟨g, cap, h2, ?_⟩
    rw [cell_of_row _ _ _ _ _ _ h4]
    have hi := (List.getElem?_eq_some_iff.1 hx).1
    rw [← h8, List.getElem?_take, if_pos (by omega)] at hx
    simpa using hx
theorem Ll.get {B : Nat} {w : World} {v : Value} {ls : List (List Nat)} (h : Ll B w v ls) {i : Nat} (hi : i < ls.length) : ∃ (g c : Nat) (x : Value), v = .slice (some ⟨g, 0, none⟩) ls.length c ∧ w.cell? ⟨g, i, none⟩ = some x ∧ Ob B w x ls[i] := by
  obtain ⟨vs, h1, h2⟩ := h
  obtain ⟨x, h3, h4⟩ := h2 i ls[i] (List.getElem?_eq_getElem hi)
  obtain ⟨g, c, h5, h6⟩ := own_get h1 h3
  exact ⟨g, c, x, h5, h6, h4⟩
theorem Lb.get {B : Nat} {w : World} {v : Value} {ls : List (List (List Nat))} (h : Lb B w v ls) {i : Nat} (hi : i < ls.length) : ∃ (g c : Nat) (x : Value), v = .slice (some ⟨g, 0, none⟩) ls.length c ∧ w.cell? ⟨g, i, none⟩ = some x ∧ Ll B w x ls[i] := by
  obtain ⟨vs, h1, h2⟩ := h
  obtain ⟨x, h3, h4⟩ := h2 i ls[i] (List.getElem?_eq_getElem hi)
  obtain ⟨g, c, h5, h6⟩ := own_get h1 h3
  exact ⟨g, c, x, h5, h6, h4⟩
attribute [local go_sem ↓] toCvS in
set_option maxRecDepth 100000 in
set_option maxHeartbeats 3200000 in
theorem sameLists_eq (W : World) {B B' : Nat} {a b : Value} {ls : List (List Nat)} (ha : Ll B W a ls) (hb : Ll B' W b ls) (hlim : ls.length ≤ 1000000000) : Calls Tryd.prog 13 #[a, b] W fun e w' => e = .returned (.bool true) ∧ ∃ m, w' = W.drewN m := by
  obtain ⟨oa, ca, rfl⟩ := ha.sl
  obtain ⟨ob, cb, rfl⟩ := hb.sl
  have HA := mkHid (And.intro ha hb)
  clear ha hb
  go_enter Tryd.func13, Tryd.ntmps13
  go_wp2_with fail
  go_loopw [5] (fun iv wr => ∃ i : Nat, iv = .int .i64 (i : Int) ∧ i ≤ ls.length ∧ Hid (∃ m, wr = W.drewN m)) (fun iv _ => ls.length - (intOf iv).toNat)
  case atStart => exact ⟨0, rfl, Nat.zero_le _, 0, rfl⟩
  case round =>
    obtain ⟨i, rfl, hi, HI⟩ := hrel
    by_cases hlt : i < ls.length
    · have hlt2 : (i : Int) < (ls.length : Int) := by omega
      have hi0 : (0 : Int) ≤ (i : Int) := by omega
      obtain ⟨m0, hm0⟩ := HI.out
      obtain ⟨ga, c, x, e1, c1, o1⟩ := HA.out.1.get hlt
      obtain ⟨gb, c', y, e2, c2, o2⟩ := HA.out.2.get hlt
      injection e1 with e1 el ec
      injection e2 with e2 el2 ec2
      clear el el2
      subst e1 e2 ec ec2
      have hdr : ∀ m, Below W.heap.size W (wr.drewN m) := fun m => by rw [hm0]; exact below_drewN (below_drewN (Below.refl _ _) _) _
      have d1 : ∀ m, (wr.drewN m).cell? ⟨ga, i, none⟩ = some x := fun m => below_cell (hdr m) c1
      have d2 : ∀ m, (wr.drewN m).cell? ⟨gb, i, none⟩ = some y := fun m => below_cell (hdr m) c2
      have q1 : ∀ m, (cvS x).run Tryd.prog (wr.drewN m) = .ok (.string (mkS ls[i])) (wr.drewN m) := fun m => cv_bl (o1.bl.below (hdr m))
      have q2 : ∀ m, (cvS y).run Tryd.prog (wr.drewN m) = .ok (.string (mkS ls[i])) (wr.drewN m) := fun m => cv_bl (o2.bl.below (hdr m))
      obtain ⟨S, hS⟩ : ∃ S, mkS ls[i] = S := ⟨_, rfl⟩
      rw [hS] at q1 q2
      obtain ⟨ox, cx, rfl⟩ := o1.sl
      obtain ⟨oy, cy, rfl⟩ := o2.sl
      obtain ⟨n, hn⟩ : ∃ n, ls[i].length = n := ⟨_, rfl⟩
      rw [hn] at q1 q2 d1 d2
      have HM := mkHid hm0
      clear hm0 hdr o1 o2 c1 c2 hS hn
      go_wp2_with fail
      go_quiet (fail)
      go_wp2_with fail
      exact ⟨⟨i + 1, by simp, by omega, by rw [HM.out, World.drewN_drewN]; exact ⟨_, rfl⟩⟩, by simp only [intOf]; omega⟩
    · have hlt2 : ¬ (i : Int) < (ls.length : Int) := by omega
      go_wp2_with fail
      go_ret
      exact ⟨rfl, HI.out⟩
set_option maxRecDepth 100000 in
set_option maxHeartbeats 3200000 in
theorem sameStory_eq (W : World) {B B' : Nat} {n0 n1 n2 n3 : Int} {t4 t5 u4 u5 : Value} {bl : List (List Nat)} {bt : List (List (List Nat))} (h4 : Ll B W t4 bl) (h5 : Lb B W t5 bt) (k4 : Ll B' W u4 bl) (k5 : Lb B' W u5 bt) (hl4 : bl.length ≤ 1000000000) (hl5 : bt.length ≤ 1000000000) (hl : ∀ x ∈ bt, x.length ≤ 1000000000) :
    Calls Tryd.prog 7 #[.agg #[.int .i64 n0, .int .i64 n1, .int .i64 n2, .int .i64 n3, t4, t5], .agg #[.int .i64 n0, .int .i64 n1, .int .i64 n2, .int .i64 n3, u4, u5]] W fun e w' => e = .returned (.bool true) ∧ Below W.heap.size W w' := by
  obtain ⟨o4, c4, rfl⟩ := h4.sl
  obtain ⟨o5, c5, rfl⟩ := h5.sl
  obtain ⟨p4, d4, rfl⟩ := k4.sl
  obtain ⟨p5, d5, rfl⟩ := k5.sl
  obtain ⟨V, hV⟩ : ∃ V, (W.alloc (.cells #[.int .i64 n0, .int .i64 n1, .int .i64 n2, .int .i64 n3, .slice o4 bl.length c4, .slice o5 bt.length c5] 30)).alloc (.cells #[.int .i64 n0, .int .i64 n1, .int .i64 n2, .int .i64 n3, .slice p4 bl.length d4, .slice p5 bt.length d5] 30) = V := ⟨_, rfl⟩
  have vb : Below W.heap.size W V := by rw [← hV]; exact below2 _ _ _
  have r0 := row2 W (.cells #[.int .i64 n0, .int .i64 n1, .int .i64 n2, .int .i64 n3, .slice o4 bl.length c4, .slice o5 bt.length c5] 30) (.cells #[.int .i64 n0, .int .i64 n1, .int .i64 n2, .int .i64 n3, .slice p4 bl.length d4, .slice p5 bt.length d5] 30)
  have r1 := row2n W (.cells #[.int .i64 n0, .int .i64 n1, .int .i64 n2, .int .i64 n3, .slice o4 bl.length c4, .slice o5 bt.length c5] 30) (.cells #[.int .i64 n0, .int .i64 n1, .int .i64 n2, .int .i64 n3, .slice p4 bl.length d4, .slice p5 bt.length d5] 30)
  rw [hV] at r0 r1
  have a0 : V.cell? ⟨W.heap.size, 0, none⟩ = some (.int .i64 n0) := (cell_of_row _ _ _ _ _ _ r0).trans rfl
  have a1 : V.cell? ⟨W.heap.size, 1, none⟩ = some (.int .i64 n1) := (cell_of_row _ _ _ _ _ _ r0).trans rfl
  have a2 : V.cell? ⟨W.heap.size, 2, none⟩ = some (.int .i64 n2) := (cell_of_row _ _ _ _ _ _ r0).trans rfl
  have a3 : V.cell? ⟨W.heap.size, 3, none⟩ = some (.int .i64 n3) := (cell_of_row _ _ _ _ _ _ r0).trans rfl
  have a4 : V.cell? ⟨W.heap.size, 4, none⟩ = some (.slice o4 bl.length c4) := (cell_of_row _ _ _ _ _ _ r0).trans rfl
  have a5 : V.cell? ⟨W.heap.size, 5, none⟩ = some (.slice o5 bt.length c5) := (cell_of_row _ _ _ _ _ _ r0).trans rfl
  have e0 : V.cell? ⟨W.heap.size + 1, 0, none⟩ = some (.int .i64 n0) := (cell_of_row _ _ _ _ _ _ r1).trans rfl
  have e1 : V.cell? ⟨W.heap.size + 1, 1, none⟩ = some (.int .i64 n1) := (cell_of_row _ _ _ _ _ _ r1).trans rfl
  have e2 : V.cell? ⟨W.heap.size + 1, 2, none⟩ = some (.int .i64 n2) := (cell_of_row _ _ _ _ _ _ r1).trans rfl
  have e3 : V.cell? ⟨W.heap.size + 1, 3, none⟩ = some (.int .i64 n3) := (cell_of_row _ _ _ _ _ _ r1).trans rfl
  have e4 : V.cell? ⟨W.heap.size + 1, 4, none⟩ = some (.slice p4 bl.length d4) := (cell_of_row _ _ _ _ _ _ r1).trans rfl
  have e5 : V.cell? ⟨W.heap.size + 1, 5, none⟩ = some (.slice p5 bt.length d5) := (cell_of_row _ _ _ _ _ _ r1).trans rfl
  have v4 := h4.keep (stay_below vb)
  have v5 := h5.keep (stay_below vb)
  have x4 := k4.keep (stay_below vb)
  have x5 := k5.keep (stay_below vb)
  have CB := sameLists_eq V v4 x4 hl4
  have HV := mkHid (And.intro v5 (And.intro x5 (And.intro vb hl)))
  clear h4 h5 k4 k5 r0 r1 v4 v5 x4 x5 vb hl
  go_enter Tryd.func7, Tryd.ntmps7
  go_wp2_with fail
  refine CB.mono ?_
  rintro e w ⟨rfl, m1, hm1⟩
  dsimp only
  clear CB hV
  subst hm1
  go_wp2_with fail
  go_loopw [5] (fun iv wr => ∃ i : Nat, iv = .int .i64 (i : Int) ∧ i ≤ bt.length ∧ Hid (∃ m, wr = V.drewN m)) (fun iv _ => bt.length - (intOf iv).toNat)
  case atStart => exact ⟨0, rfl, Nat.zero_le _, m1, rfl⟩
  case round =>
    obtain ⟨i, rfl, hi, HI⟩ := hrel
    obtain ⟨m0, hm0⟩ := HI.out
    have wb : Below V.heap.size V wr := by rw [hm0]; exact below_drewN (Below.refl _ _) _
    have b5 := below_cell wb a5
    have f5 := below_cell wb e5
    by_cases hlt : i < bt.length
    · have hlt2 : (i : Int) < (bt.length : Int) := by omega
      have hi0 : (0 : Int) ≤ (i : Int) := by omega
      obtain ⟨ga, c, x, q1, c1, o1⟩ := HV.out.1.get hlt
      obtain ⟨gb, c', y, q2, c2, o2⟩ := HV.out.2.1.get hlt
      injection q1 with q1 el ec
      injection q2 with q2 el2 ec2
      clear el el2
      subst q1 q2 ec ec2
      have CL := mkHid (fun m => sameLists_eq (wr.drewN m) (o1.keep (stay_below (below_drewN wb m))) (o2.keep (stay_below (below_drewN wb m))) (HV.out.2.2.2 _ (List.getElem_mem hlt)))
      have g1 := below_cell wb c1
      have g2 := below_cell wb c2
      obtain ⟨ox, cx, rfl⟩ := o1.sl
      obtain ⟨oy, cy, rfl⟩ := o2.sl
      obtain ⟨n, hn⟩ : ∃ n, bt[i].length = n := ⟨_, rfl⟩
      rw [hn] at CL g1 g2
      have HM := mkHid hm0
      clear o1 o2 hn c1 c2 wb hm0
      go_wp2_with fail
      go_quiet ((go_at_call 13; exact Calls.quiet_of (CL.out _)))
      go_wp2_with fail
      exact ⟨⟨i + 1, by simp, by omega, by rw [HM.out, World.drewN_drewN]; exact ⟨_, rfl⟩⟩, by simp only [intOf]; omega⟩
    · have hlt2 : ¬ (i : Int) < (bt.length : Int) := by omega
      have HB := mkHid (HV.out.2.2.1.trans (wb.mono HV.out.2.2.1.size))
      clear hm0
      go_wp2_with fail
      go_ret
      exact ⟨rfl, HB.out⟩
end Go.Proofs.YtlhpkpedooklnaaDoor
