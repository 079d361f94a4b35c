/- Several texts in one: JuM, JuN, JuO, JuP. -/
import Derived.Test.YtfimaflglnemdaaDoorJqD
/- The journal's rows: Commit. -/
namespace Go.Proofs.YtfimaflglnemdaaDoor
open Go.RowKit
open JM
set_option maxRecDepth 20000
namespace Dev
theorem ll_ty : ∀ t : Nat, (t = 5 ∨ t = 23) → t ≠ 93 ∧ t ≠ 90 ∧ t ≠ 101 := fun t ht => by rcases ht with rfl | rfl <;> decide
theorem lb_ty : ∀ t : Nat, (t = 5 ∨ t = 23 ∨ t = 27) → t ≠ 93 ∧ t ≠ 90 ∧ t ≠ 101 := fun t ht => by rcases ht with rfl | rfl | rfl <;> decide
theorem below_drew (W : World) : Below W.heap.size W W.drew := ⟨rfl, rfl, rfl, Nat.le_refl _, fun _ _ => rfl⟩
section
variable [Inhabited HoleT] {lo j v lim live gen last n : Nat} {W : World} {x : Sp}
/-- A batch is asked whether it fits, ahead of being laid down. -/
theorem askB {B : Nat} {u : Value} {ls : List (List Nat)} (h : Jn lo W j v lim live gen last n x) (hu : Ll B W u ls) (hs : sizes ls < 70000000) (hL : (fl x live).1.length ≤ 67108864) :
    (Calls Tryd.prog 46 #[u] W.drew fun e w' => e = .returned (.int .i64 ((26 + sizes ls : Nat) : Int)) ∧ w' = W.drew) ∧ (Calls Tryd.prog 45 #[.pointer (some ⟨j, 0, none⟩), .int .i64 (live : Int), .int .i64 ((26 + sizes ls : Nat) : Int)] W.drew fun e w' => e = .returned (.bool (decide ((fl x live).1.length + (26 + sizes ls) ≤ lim))) ∧ Below W.heap.size W w' ∧ w'.cell? ⟨j, 2, none⟩ = some (.int .i64 (live : Int))) := by
  refine ⟨batch_size W.drew (hu.lr.below (below_drew W)) (by omega), ?_⟩
  refine (fits_any (h.below (below_drew W)) live h.live1 (26 + sizes ls) (by omega) (by omega)).mono ?_
  rintro e w' ⟨e1, e2⟩
  exact ⟨e1, (below_drew W).trans e2, ((h.below (below_drew W)).below e2).c2⟩
set_option maxRecDepth 100000 in
set_option maxHeartbeats 1600000 in
theorem Commit_full {B : Nat} {u : Value} {ls : List (List Nat)} (h : Jn lo W j v lim live gen last n x) (hu : Ll B W u ls) (hg : Gl ls) (hlast : last < 4611686018427387904) (hs : sizes ls < 70000000) (hL : (fl x live).1.length ≤ 67108864) (hfit : ¬ (fl x live).1.length + (26 + sizes ls) ≤ lim) :
    Calls Tryd.prog 16 #[.pointer (some ⟨j, 0, none⟩), u] W fun e w' => e = .returned (.tuple #[.int .i64 0, .int .i64 5]) ∧ Below W.heap.size W w' := by
  have C1 := tooLong_no W hu.lr hg
  obtain ⟨CA, CB⟩ := askB h hu hs hL
  rw [decide_eq_false hfit] at CB
  have c2 := h.c2
  have c4 := h.c4
  have hl4 : Hid (decide ((4611686018427387904 : Int) ≤ (last : Int)) = false) := by show decide _ = false; rw [decide_eq_false]; omega
  obtain ⟨z, hz⟩ : ∃ z, 26 + sizes ls = z := ⟨_, rfl⟩
  rw [hz] at CA CB
  replace CA := mkHid CA
  replace CB := mkHid CB
  replace hz := mkHid hz
  obtain ⟨ou, cu, rfl⟩ := hu.sl
  clear h hu hg hlast hs hL hfit
  go_enter Tryd.func16, Tryd.ntmps16
  go_wp2_with fail
  refine C1.mono ?_
  rintro e w ⟨rfl, rfl⟩
  clear C1
  go_upto_region 5 with fail
  have hq := hl4.out
  clear hl4
  go_upto_region 7 with fail
  clear hq
  go_region_held3 (fun w' => w'.cell? ⟨j, 2, none⟩ = some (.int .i64 (live : Int))) (first | assumption | exact c2)
    (first
      | (go_at_call 46; with_reducible refine Calls.mono CA.out ?_; rintro e w1 ⟨rfl, rfl⟩)
      | (go_at_call 45; with_reducible refine Calls.mono CB.out ?_; rintro e w2 ⟨rfl, hb2, hc2⟩))
  all_goals
    go_wp2_with fail
    go_ret2
    exact ⟨rfl, hb2⟩
set_option maxRecDepth 100000 in
set_option maxHeartbeats 1600000 in
theorem Commit_ok {B : Nat} {u : Value} {ls : List (List Nat)} (h : Jn lo W j v lim live gen last n x) (hu : Ll B W u ls) (hg : Gl ls) (hT : Tc W) (h0 : 0 < lo) (hlast : last < 4611686018427387904) (hs : sizes ls < 70000000) (hL : (fl x live).1.length ≤ 67108864) (hlim : lim ≤ 67108864) (hfit : (fl x live).1.length + (26 + sizes ls) ≤ lim) (hn : n + 2 < 1000000) :
    Calls Tryd.prog 16 #[.pointer (some ⟨j, 0, none⟩), u] W fun e w' => e = .returned (.tuple #[.int .i64 ((last + 1 : Nat) : Int), .int .i64 0]) ∧ Jn lo w' j v lim live gen (last + 1) (n + 2) (up (up x live ((fl x live).1 ++ batchw (last + 1) ls, (fl x live).2)) live ((fl x live).1 ++ batchw (last + 1) ls, ((fl x live).1 ++ batchw (last + 1) ls).length)) ∧ Fo lo W w' := by
  have C1 := tooLong_no W hu.lr hg
  obtain ⟨CA, CB⟩ := askB h hu hs hL
  rw [decide_eq_true hfit] at CB
  have c2 := h.c2
  have c4 := h.c4
  have hl4 : Hid (decide ((4611686018427387904 : Int) ≤ (last : Int)) = false) := by show decide _ = false; rw [decide_eq_false]; omega
  have hl5 : last < 9000000000000000000 := by omega
  obtain ⟨z, hz⟩ : ∃ z, 26 + sizes ls = z := ⟨_, rfl⟩
  rw [hz] at CA CB
  replace CA := mkHid CA
  replace CB := mkHid CB
  replace hz := mkHid hz
  obtain ⟨ou, cu, rfl⟩ := hu.sl
  have HH := mkHid (And.intro h (And.intro hu hT))
  have HS := mkHid (And.intro hs (And.intro hL (And.intro hlim hfit)))
  clear h hu hg hlast hs hL hfit hT hlim
  go_enter Tryd.func16, Tryd.ntmps16
  go_wp2_with fail
  refine C1.mono ?_
  rintro e w ⟨rfl, rfl⟩
  clear C1
  go_upto_region 5 with fail
  have hq := hl4.out
  clear hl4
  go_upto_region 7 with fail
  clear hq
  go_region_held3 (fun w' => w'.cell? ⟨j, 2, none⟩ = some (.int .i64 (live : Int))) (first | assumption | exact c2)
    (first
      | (go_at_call 46; with_reducible refine Calls.mono CA.out ?_; rintro e w1 ⟨rfl, rfl⟩)
      | (go_at_call 45; with_reducible refine Calls.mono CB.out ?_; rintro e w2 ⟨rfl, hb2, hc2⟩))
  have h2 := HH.out.1.below hb2
  have e4 := h2.c4
  have f4 := h2.fz 4
  obtain ⟨h3, fo3⟩ := h2.setN (last + 1)
  rw [Int.natCast_succ] at h3 fo3
  obtain ⟨Z, hZ⟩ : ∃ Z, w2.setCell ⟨j, 4, none⟩ (.int .i64 ((last : Int) + 1)) = Z := ⟨_, rfl⟩
  rw [hZ] at h3 fo3
  have fo : Fo lo w Z := (Fo.of_below hb2).trans fo3
  have hu3 := HH.out.2.1.keep (fo.stay ll_ty)
  have hT3 := HH.out.2.2.below (fo.below HH.out.1.hlo) h0
  have h3d := h3.below (below_drew Z)
  have CC : Hid (Calls Tryd.prog 47 #[.int .i64 ((last : Int) + 1), .slice ou ls.length cu] Z.drew fun e w1 => ∃ v', e = .returned v' ∧ Hid (Bl w1 v' (batchw (last + 1) ls) ∧ Below Z.heap.size Z w1) ∧ (w1.cell? ⟨j, 0, none⟩ = some (.pointer (some ⟨v, 0, none⟩)) ∧ w1.cell? ⟨j, 2, none⟩ = some (.int .i64 (live : Int)) ∧ w1.cell? ⟨j, 4, none⟩ = some (.int .i64 ((last : Int) + 1)))) := by
    refine (batch_lay (last + 1) Z.drew (hu3.lr.below (below_drew Z)) (hT3.below (below_drew Z) hT3.sz) HS.out.1).mono ?_
    rintro e w1 ⟨v', e1, e2, e3⟩
    exact ⟨v', e1, ⟨e2.bl, (below_drew Z).trans e3⟩, (h3d.below e3).c0, (h3d.below e3).c2, (h3d.below e3).c4⟩
  have CD : Hid (∀ w1 v', Hid (Bl w1 v' (batchw (last + 1) ls) ∧ Below Z.heap.size Z w1) → Calls Tryd.prog 29 #[.pointer (some ⟨v, 0, none⟩), .int .i64 (live : Int), v'] w1 fun e w' => e = .returned (.int .i64 0) ∧ Hid (Jn lo w' j v lim live gen (last + 1) (n + 1) (up x live ((fl x live).1 ++ batchw (last + 1) ls, (fl x live).2)) ∧ Fo lo w w') ∧ (w'.cell? ⟨j, 0, none⟩ = some (.pointer (some ⟨v, 0, none⟩)) ∧ w'.cell? ⟨j, 2, none⟩ = some (.int .i64 (live : Int)) ∧ w'.cell? ⟨j, 4, none⟩ = some (.int .i64 ((last : Int) + 1)))) := by
    rintro w1 v' ⟨k1, k2⟩
    refine ((h3.below k2).append (by omega) live h3.live1 v' _ k1 (by rw [batchw_len]; have := HS.out; omega)).mono ?_
    rintro e w' ⟨e1, e2, e3⟩
    exact ⟨e1, ⟨e2, fo.trans ((Fo.of_below k2).trans e3)⟩, e2.c0, e2.c2, e2.c4⟩
  have d0 := h3d.c0
  have d2 := h3d.c2
  have d4 := h3d.c4
  rw [Int.natCast_succ] at d4
  clear h2 h3 fo3 fo hu3 hT3 h3d HH c2 c4 hb2 hc2 CA CB
  go_upto_region 10 with fail
  go_region_held3 (fun w' => w'.cell? ⟨j, 0, none⟩ = some (.pointer (some ⟨v, 0, none⟩)) ∧ w'.cell? ⟨j, 2, none⟩ = some (.int .i64 (live : Int)) ∧ w'.cell? ⟨j, 4, none⟩ = some (.int .i64 ((last : Int) + 1))) (first | assumption | exact ⟨d0, d2, d4⟩)
    (first
      | (go_at_call 47; with_reducible refine Calls.mono CC.out ?_; rintro e w3 ⟨v3, rfl, k3, s3⟩)
      | (go_at_call 29; with_reducible refine Calls.mono (CD.out _ _ k3) ?_; rintro e w4 ⟨rfl, k4, s4⟩))
  have h4d := k4.out.1.below (below_drew w4)
  have CE : Hid (Calls Tryd.prog 30 #[.pointer (some ⟨v, 0, none⟩), .int .i64 (live : Int)] w4.drew fun e w' => e = .returned (.int .i64 0) ∧ Hid (Jn lo w' j v lim live gen (last + 1) (n + 2) (up (up x live ((fl x live).1 ++ batchw (last + 1) ls, (fl x live).2)) live ((fl x live).1 ++ batchw (last + 1) ls, ((fl x live).1 ++ batchw (last + 1) ls).length)) ∧ Fo lo w w') ∧ (w'.cell? ⟨j, 0, none⟩ = some (.pointer (some ⟨v, 0, none⟩)) ∧ w'.cell? ⟨j, 2, none⟩ = some (.int .i64 (live : Int)) ∧ w'.cell? ⟨j, 4, none⟩ = some (.int .i64 ((last : Int) + 1)))) := by
    refine (h4d.sync (by omega) live h4d.live1).mono ?_
    rintro e w' ⟨e1, e2, e3⟩
    rw [fl_same] at e2
    exact ⟨e1, ⟨e2, k4.out.2.trans ((Fo.of_below (below_drew w4)).trans e3)⟩, e2.c0, e2.c2, e2.c4⟩
  have d5 : w4.drew.cell? ⟨j, 0, none⟩ = some (.pointer (some ⟨v, 0, none⟩)) ∧ w4.drew.cell? ⟨j, 2, none⟩ = some (.int .i64 (live : Int)) ∧ w4.drew.cell? ⟨j, 4, none⟩ = some (.int .i64 ((last : Int) + 1)) := s4
  clear h4d CC CD k3 s3 d0 d2 d4
  go_upto_region 11 with fail
  go_region_held3 (fun w' => w'.cell? ⟨j, 0, none⟩ = some (.pointer (some ⟨v, 0, none⟩)) ∧ w'.cell? ⟨j, 2, none⟩ = some (.int .i64 (live : Int)) ∧ w'.cell? ⟨j, 4, none⟩ = some (.int .i64 ((last : Int) + 1))) (first | assumption | exact d5)
    (first
      | (go_at_call 30; with_reducible refine Calls.mono CE.out ?_; rintro e w6 ⟨rfl, k6, s6⟩))
  obtain ⟨-, -, s64⟩ := s6
  go_wp2_with fail
  go_ret2
  refine ⟨?_, k6.out⟩
  rw [Int.natCast_succ]
  rfl
end
end Dev
end Go.Proofs.YtfimaflglnemdaaDoor

/- The journal's rows: Compact. -/
namespace Go.Proofs.YtfimaflglnemdaaDoor
open Go.RowKit
open JM
set_option maxRecDepth 20000
namespace Dev
theorem up_up (x : Sp) (i : Nat) (p q : List Nat × Nat) : up (up x i p) i q = up x i q := by
  unfold up
  split <;> rfl
section
variable [Inhabited HoleT] {lo j v lim live gen last n : Nat} {W : World} {x : Sp}
set_option maxRecDepth 100000 in
set_option maxHeartbeats 1600000 in
theorem Compact_full {B o : Nat} {u : Value} {ls : List (List Nat)} (h : Jn lo W j v lim live gen last n x) (ho : o ≤ 1) (hol : o + live = 1) (hu : Ll B W u ls) (hg : Gl ls) (hgen : gen < 4611686018427387904) (hlast : last < 4611686018427387904) (hs : sizes ls < 70000000) (hL : (fl x o).1 = []) (hfit : ¬ 52 + sizes ls ≤ lim) :
    Calls Tryd.prog 23 #[.pointer (some ⟨j, 0, none⟩), u] W fun e w' => e = .returned (.int .i64 5) ∧ Below W.heap.size W w' := by
  have C1 := tooLong_no W hu.lr hg
  have C2 := other_any (live : Int) (by omega) (by omega) W
  have C3 := base_size W hu.lr (by omega)
  have C4 := fits_any h o ho (52 + sizes ls) (by omega) (by rw [hL]; simp)
  rw [hL, List.length_nil, Nat.zero_add, decide_eq_false hfit] at C4
  obtain ⟨z, hz⟩ : ∃ z, 52 + sizes ls = z := ⟨_, rfl⟩
  rw [hz] at C3 C4
  rw [show 1 - (live : Int) = (o : Int) by omega] at C2
  have c2 := h.c2
  have c3 := h.c3
  have c4 := h.c4
  have hl3 : Hid (decide ((4611686018427387904 : Int) ≤ (gen : Int)) = false) := by show decide _ = false; rw [decide_eq_false]; omega
  have hl4 : Hid (decide ((4611686018427387904 : Int) ≤ (last : Int)) = false) := by show decide _ = false; rw [decide_eq_false]; omega
  obtain ⟨ou, cu, rfl⟩ := hu.sl
  replace C4 := mkHid C4
  clear h hu hg hlast hs hL hfit hz hgen hol ho
  go_enter Tryd.func23, Tryd.ntmps23
  go_wp2_with fail
  refine C1.mono ?_
  rintro e w ⟨rfl, rfl⟩
  clear C1
  go_upto_region 5 with fail
  have hq3 := hl3.out
  have hq4 := hl4.out
  clear hl3 hl4
  go_upto_region 7 with fail
  clear hq3 hq4
  go_wp2_with fail
  refine C2.mono ?_
  rintro e w2 ⟨rfl, rfl⟩
  clear C2
  go_wp2_with fail
  refine C3.mono ?_
  rintro e w3 ⟨rfl, rfl⟩
  clear C3
  go_wp2_with fail
  refine C4.out.mono ?_
  rintro e w4 ⟨rfl, hb⟩
  clear C4
  go_wp2_with fail
  go_ret
  exact ⟨rfl, hb⟩
set_option maxRecDepth 100000 in
set_option maxHeartbeats 1600000 in
theorem Compact_ok {B o : Nat} {u : Value} {ls : List (List Nat)} (h : Jn lo W j v lim live gen last n x) (ho : o ≤ 1) (hol : o + live = 1) (hu : Ll B W u ls) (hg : Gl ls) (hT : Tc W) (h0 : 0 < lo) (hgen : gen < 4611686018427387904) (hlast : last < 4611686018427387904) (hs : sizes ls < 70000000) (hL : (fl x o).1 = []) (hlim : lim ≤ 67108864) (hfit : 52 + sizes ls ≤ lim) (hn : n + 3 < 1000000) :
    Calls Tryd.prog 23 #[.pointer (some ⟨j, 0, none⟩), u] W fun e w' => e = .returned (.int .i64 0) ∧ Jn lo w' j v lim o (gen + 1) last (n + 3) (up (up x o (basew (gen + 1) (last + 1) ls, (basew (gen + 1) (last + 1) ls).length)) live ([], 0)) ∧ Fo lo W w' := by
  have C1 := tooLong_no W hu.lr hg
  have C2 := other_any (live : Int) (by omega) (by omega) W
  have C3 := base_size W hu.lr (by omega)
  have C4 := fits_any h o ho (52 + sizes ls) (by omega) (by rw [hL]; simp)
  rw [hL, List.length_nil, Nat.zero_add, decide_eq_true hfit] at C4
  obtain ⟨z, hz⟩ : ∃ z, 52 + sizes ls = z := ⟨_, rfl⟩
  rw [hz] at C3 C4
  have hoi : 1 - (live : Int) = (o : Int) := by omega
  rw [hoi] at C2
  have c2 := h.c2
  have c3 := h.c3
  have c4 := h.c4
  have hl3 : Hid (decide ((4611686018427387904 : Int) ≤ (gen : Int)) = false) := by show decide _ = false; rw [decide_eq_false]; omega
  have hl4 : Hid (decide ((4611686018427387904 : Int) ≤ (last : Int)) = false) := by show decide _ = false; rw [decide_eq_false]; omega
  have hl5 : last < 9000000000000000000 := by omega
  have hl6 : gen < 9000000000000000000 := by omega
  obtain ⟨ou, cu, rfl⟩ := hu.sl
  replace C4 := mkHid C4
  have HH := mkHid (And.intro h (And.intro hu (And.intro hT hoi)))
  have HS := mkHid (And.intro hs (And.intro hL (And.intro hlim (And.intro hfit (And.intro ho hol)))))
  clear h hu hg hlast hs hL hfit hz hgen hol ho hlim hT hoi
  go_enter Tryd.func23, Tryd.ntmps23
  go_wp2_with fail
  refine C1.mono ?_
  rintro e w ⟨rfl, rfl⟩
  clear C1
  go_upto_region 5 with fail
  have hq3 := hl3.out
  have hq4 := hl4.out
  clear hl3 hl4
  go_upto_region 7 with fail
  clear hq3 hq4
  go_wp2_with fail
  refine C2.mono ?_
  rintro e w2 ⟨rfl, rfl⟩
  clear C2
  go_wp2_with fail
  refine C3.mono ?_
  rintro e w3 ⟨rfl, rfl⟩
  clear C3
  go_wp2_with fail
  refine C4.out.mono ?_
  rintro e w4 ⟨rfl, hb⟩
  clear C4
  have h2 := HH.out.1.below hb
  have e2 := h2.c2
  have C5 := other_any (live : Int) (by have := HS.out; omega) (by have := HS.out; omega) w4
  rw [HH.out.2.2.2] at C5
  clear c2 c3 c4
  go_upto_region 10 with fail
  go_wp2_with fail
  refine C5.mono ?_
  rintro e w5 ⟨rfl, hw5⟩
  subst hw5
  clear C5
  have f2 := h2.fz 2
  obtain ⟨h3, fo3⟩ := h2.setL o HS.out.2.2.2.2.1
  obtain ⟨Y, hY⟩ : ∃ Y, w5.setCell ⟨j, 2, none⟩ (.int .i64 (o : Int)) = Y := ⟨_, rfl⟩
  rw [hY] at h3 fo3
  have g3 := h3.c3
  have fg3 := h3.fz 3
  obtain ⟨h4, fo4⟩ := h3.setG (gen + 1)
  rw [Int.natCast_succ] at h4 fo4
  obtain ⟨Z, hZ⟩ : ∃ Z, Y.setCell ⟨j, 3, none⟩ (.int .i64 ((gen : Int) + 1)) = Z := ⟨_, rfl⟩
  rw [hZ] at h4 fo4
  have fo : Fo lo w3 Z := (Fo.of_below hb).trans (fo3.trans fo4)
  have hu3 := HH.out.2.1.keep (fo.stay ll_ty)
  have hT3 := HH.out.2.2.1.below (fo.below HH.out.1.hlo) h0
  have h3d := h4.below (below_drew Z)
  have CC : Hid (Calls Tryd.prog 52 #[.int .i64 ((gen : Int) + 1), .int .i64 (IntKind.i64.wrap ((last : Int) + 1)), .slice ou ls.length cu] Z.drew fun e w1 => ∃ v', e = .returned v' ∧ Hid (Bl w1 v' (basew (gen + 1) (last + 1) ls) ∧ Below Z.heap.size Z w1) ∧ (w1.cell? ⟨j, 0, none⟩ = some (.pointer (some ⟨v, 0, none⟩)) ∧ w1.cell? ⟨j, 2, none⟩ = some (.int .i64 (o : Int)) ∧ w1.cell? ⟨j, 3, none⟩ = some (.int .i64 ((gen : Int) + 1)) ∧ w1.cell? ⟨j, 4, none⟩ = some (.int .i64 (last : Int)))) := by
    rw [show IntKind.i64.wrap ((last : Int) + 1) = ((last + 1 : Nat) : Int) by rw [IntKind.wrap_i64]; omega]
    refine (base_lay (gen + 1) (last + 1) Z.drew (hu3.lr.below (below_drew Z)) (hT3.below (below_drew Z) hT3.sz) HS.out.1).mono ?_
    rintro e w1 ⟨v', e1, e2, e3⟩
    exact ⟨v', e1, ⟨e2.bl, (below_drew Z).trans e3⟩, (h3d.below e3).c0, (h3d.below e3).c2, (h3d.below e3).c3, (h3d.below e3).c4⟩
  have CD : Hid (∀ w1 v', Hid (Bl w1 v' (basew (gen + 1) (last + 1) ls) ∧ Below Z.heap.size Z w1) → Calls Tryd.prog 29 #[.pointer (some ⟨v, 0, none⟩), .int .i64 (o : Int), v'] w1 fun e w' => e = .returned (.int .i64 0) ∧ Hid (Jn lo w' j v lim o (gen + 1) last (n + 1) (up x o (basew (gen + 1) (last + 1) ls, (fl x o).2)) ∧ Fo lo w3 w') ∧ (w'.cell? ⟨j, 0, none⟩ = some (.pointer (some ⟨v, 0, none⟩)) ∧ w'.cell? ⟨j, 2, none⟩ = some (.int .i64 (o : Int)) ∧ w'.cell? ⟨j, 3, none⟩ = some (.int .i64 ((gen : Int) + 1)) ∧ w'.cell? ⟨j, 4, none⟩ = some (.int .i64 (last : Int)))) := by
    rintro w1 v' ⟨k1, k2⟩
    have hL := HS.out.2.1
    refine ((h4.below k2).append (by omega) o h4.live1 v' _ k1 (by rw [basew_len, hL, List.length_nil]; have := HS.out; omega)).mono ?_
    rintro e w' ⟨e1, e2, e3⟩
    rw [hL, List.nil_append] at e2
    exact ⟨e1, ⟨e2, fo.trans ((Fo.of_below k2).trans e3)⟩, e2.c0, e2.c2, e2.c3, e2.c4⟩
  have d0 : Z.drew.cell? ⟨j, 0, none⟩ = some (.pointer (some ⟨v, 0, none⟩)) ∧ Z.drew.cell? ⟨j, 2, none⟩ = some (.int .i64 (o : Int)) ∧ Z.drew.cell? ⟨j, 3, none⟩ = some (.int .i64 ((gen : Int) + 1)) ∧ Z.drew.cell? ⟨j, 4, none⟩ = some (.int .i64 (last : Int)) := ⟨h3d.c0, h3d.c2, h3d.c3, h3d.c4⟩
  clear h2 h3 fo3 fo4 h4 fo hu3 hT3 h3d HH hb
  go_upto_region 12 with fail
  go_region_held3 (fun w' => w'.cell? ⟨j, 0, none⟩ = some (.pointer (some ⟨v, 0, none⟩)) ∧ w'.cell? ⟨j, 2, none⟩ = some (.int .i64 (o : Int)) ∧ w'.cell? ⟨j, 3, none⟩ = some (.int .i64 ((gen : Int) + 1)) ∧ w'.cell? ⟨j, 4, none⟩ = some (.int .i64 (last : Int))) (first | assumption | exact d0)
    (first
      | (go_at_call 52; with_reducible refine Calls.mono CC.out ?_; rintro e wx ⟨v3, rfl, k3, s3⟩)
      | (go_at_call 29; with_reducible refine Calls.mono (CD.out _ _ k3) ?_; rintro e w4 ⟨rfl, k4, s4⟩))
  have h4d := k4.out.1.below (below_drew w4)
  have CE : Hid (Calls Tryd.prog 30 #[.pointer (some ⟨v, 0, none⟩), .int .i64 (o : Int)] w4.drew fun e w' => e = .returned (.int .i64 0) ∧ Hid (Jn lo w' j v lim o (gen + 1) last (n + 2) (up x o (basew (gen + 1) (last + 1) ls, (basew (gen + 1) (last + 1) ls).length)) ∧ Fo lo w3 w') ∧ (w'.cell? ⟨j, 0, none⟩ = some (.pointer (some ⟨v, 0, none⟩)) ∧ w'.cell? ⟨j, 2, none⟩ = some (.int .i64 (o : Int)))) := by
    refine (h4d.sync (by omega) o h4d.live1).mono ?_
    rintro e w' ⟨e1, e2, e3⟩
    rw [fl_same, up_up] at e2
    exact ⟨e1, ⟨e2, k4.out.2.trans ((Fo.of_below (below_drew w4)).trans e3)⟩, e2.c0, e2.c2⟩
  have d5 : w4.drew.cell? ⟨j, 0, none⟩ = some (.pointer (some ⟨v, 0, none⟩)) ∧ w4.drew.cell? ⟨j, 2, none⟩ = some (.int .i64 (o : Int)) := ⟨s4.1, s4.2.1⟩
  clear h4d CC CD k3 s3 d0
  go_upto_region 13 with fail
  go_region_held3 (fun w' => w'.cell? ⟨j, 0, none⟩ = some (.pointer (some ⟨v, 0, none⟩)) ∧ w'.cell? ⟨j, 2, none⟩ = some (.int .i64 (o : Int))) (first | assumption | exact d5)
    (first
      | (go_at_call 30; with_reducible refine Calls.mono CE.out ?_; rintro e w6 ⟨rfl, k6, s6⟩))
  obtain ⟨s60, -⟩ := s6
  have CF := k6.out.1.cut (by omega) live (by have := HS.out; omega)
  go_wp2_with fail
  refine CF.mono ?_
  rintro e w7 ⟨rfl, k7, k8⟩
  have HE := mkHid (And.intro k7 (k6.out.2.trans k8))
  clear CF k7 k8
  go_wp2_with fail
  go_ret
  exact ⟨rfl, HE.out⟩
end
end Dev
end Go.Proofs.YtfimaflglnemdaaDoor

/- The journal's rows: Story. -/
namespace Go.Proofs.YtfimaflglnemdaaDoor
open Go.RowKit
open JM
set_option maxRecDepth 20000
theorem st_Sr (w : World) (g : Nat) (C D : Array Value) (hC : C.size = 6) (hD : D.size = 6) (h1 : D.all (·.oneCell') = true) (hg : w.heap[g]? = some (.cells C 47 (0, 0))) : (stSt (.pointer (some ⟨g, 0, none⟩)) (.agg D)).run Tryd.prog w = .ok () (w.setRow g D) := by
  unfold stSt
  simp only [Instr.storeAt, Instr.sureAddr, Sem.run_bind, Sem.run_pure, Result.andThen_ok, run_storeVar_row w g 47 47 C D hg (by rw [sizeSt, hD]) (by rw [hD, hC]) h1]
theorem st_Sn (w : World) (D : Array Value) (hD : D.size = 6) (h1 : D.all (·.oneCell') = true) : (stSt (.pointer (some ⟨w.heap.size, 0, none⟩)) (.agg D)).run Tryd.prog (w.alloc (.cells #[.int .i64 0, .int .i64 0, .int .i64 0, .int .i64 0, .slice none 0 0, .slice none 0 0] 47)) = .ok () (w.alloc (.cells D 47)) := by
  exact (st_Sr _ _ zS D rfl hD h1 (heap_alloc_new _ _)).trans (by rw [World.setRow_alloc_new])
theorem ld_Sr (w : World) (g : Nat) (c : Array Value) (hc : c.size = 6) (h : w.heap[g]? = some (.cells c 47 (0, 0))) : (ldSt (.pointer (some ⟨g, 0, none⟩))).run Tryd.prog w = .ok (.agg c) w := by
  refine ld_St w g 0 c hc ?_
  have := World.rangeAt_of_block h 0 6
  rwa [show c.extract 0 (0 + 6) = c by rw [← hc, Nat.zero_add]; simp] at this
theorem results_S {fn : Func} {p : Tmp} (h : fn.results = #[.cell p 47]) (tmps : Array Value) (w : World) (g : Nat) (C : Array Value) (hC : C.size = 6)
    (hp : tmps.getD p undef = .pointer (some ⟨g, 0, none⟩)) (hg : w.heap[g]? = some (.cells C 47 (0, 0))) :
    (results fn tmps).run Tryd.prog w = .ok (.agg C) w := by
  have hp' : tmps[p]?.getD undef = .pointer (some ⟨g, 0, none⟩) := by simpa using hp
  simp [results, h, hp', asAddr, run_loadVar_row w g 47 47 C (0, 0) _ hg Tryd.underlying47 rfl (by rw [sizeSt, hC])]
def styA (i good gen first : Nat) (t4 t5 : Value) : Array Value := #[.int .i64 (i : Int), .int .i64 (good : Int), .int .i64 (gen : Int), .int .i64 (first : Int), t4, t5]
theorem styA_one {i good gen first B : Nat} {w : World} {t4 t5 : Value} {b : List (List Nat)} {bs : List (List (List Nat))} (h4 : Ll B w t4 b) (h5 : Lb B w t5 bs) : (styA i good gen first t4 t5).all (·.oneCell') = true := by
  obtain ⟨_, _, rfl⟩ := h4.sl
  obtain ⟨_, _, rfl⟩ := h5.sl
  simp [styA, Value.oneCell']
/-- Replay of a disk that has a journal. -/
theorem replay_story (W : World) {v0 v1 : Value} {l0 l1 : List Nat} (h0 : Bl W v0 l0) (h1 : Bl W v1 l1) (hT : Tc W) {i : Nat} {s : St} (hr : rep l0 l1 = .story i s) :
    Calls Tryd.prog 28 #[.agg #[v0, v1]] W fun e w' => ∃ t4 t5, e = .returned (.tuple #[.agg (styA i s.good s.gen s.first t4 t5), .int .i64 0, .int .i64 0, .int .i64 0]) ∧ Ll W.heap.size w' t4 s.base ∧ Lb W.heap.size w' t5 s.batches ∧ Below W.heap.size W w' := by
  obtain ⟨o0, c0, rfl⟩ := h0.form
  obtain ⟨o1, c1, rfl⟩ := h1.form
  refine (replay_any W h0 h1 hT).mono ?_
  rw [hr]
  rintro e w' ⟨hb, t0, t1, t2, t3, t4, t5, c, f, p, rfl, ⟨rfl, rfl, rfl, rfl, h4, h5⟩, rfl, rfl, rfl⟩
  exact ⟨t4, t5, rfl, h4, h5, hb⟩
theorem replay_none (W : World) {v0 v1 : Value} {l0 l1 : List Nat} (h0 : Bl W v0 l0) (h1 : Bl W v1 l1) (hT : Tc W) (hr : rep l0 l1 = .none) :
    Calls Tryd.prog 28 #[.agg #[v0, v1]] W fun e w' => e = .returned (.tuple #[.agg #[.int .i64 (-1), .int .i64 0, .int .i64 0, .int .i64 0, .slice none 0 0, .slice none 0 0], .int .i64 0, .int .i64 0, .int .i64 0]) ∧ Below W.heap.size W w' := by
  obtain ⟨o0, c0, rfl⟩ := h0.form
  obtain ⟨o1, c1, rfl⟩ := h1.form
  refine (replay_any W h0 h1 hT).mono ?_
  rw [hr]
  rintro e w' ⟨hb, t0, t1, t2, t3, t4, t5, c, f, p, rfl, h1, rfl, rfl, rfl⟩
  rw [h1]
  exact ⟨rfl, hb⟩
namespace Dev
theorem bl_row {w : World} {g : Nat} {l : List Nat} (hg : w.heap[g]? = some (.cells (bs l).toArray 5 (0, 0))) (hb : Byt l) (hl : l.length ≤ maxLen) : Bl w (.slice (some ⟨g, 0, none⟩) l.length l.length) l := by
  refine ⟨_, _, rfl, Nat.le_refl _, hl, hb, fun j u hu => ⟨g, 0, rfl, (Array.getElem?_eq_some_iff.1 hg).1, ?_⟩⟩
  rw [Nat.zero_add, cell_of_row _ _ _ _ _ _ hg]
  simpa using hu
section
variable [Inhabited HoleT] {lo j v lim live gen last n : Nat} {W : World} {x : Sp}
attribute [local go_sem ↓] toStSt toLdSt in
set_option maxRecDepth 100000 in
set_option maxHeartbeats 1600000 in
theorem Story_any (h : Jn lo W j v lim live gen last n x) (hT : Tc W) (hB0 : Byt x.1.1) (hB1 : Byt x.2.1) (hl0 : x.1.1.length ≤ 67108864) (hl1 : x.2.1.length ≤ 67108864) {i : Nat} {s : St} (hr : rep x.1.1 x.2.1 = .story i s) :
    Calls Tryd.prog 20 #[.pointer (some ⟨j, 0, none⟩)] W fun e w' => ∃ t4 t5, e = .returned (.agg (styA i s.good s.gen s.first t4 t5)) ∧ Ll W.heap.size w' t4 s.base ∧ Lb W.heap.size w' t5 s.batches ∧ Below W.heap.size W w' := by
  obtain ⟨A, hA⟩ : ∃ A, W.alloc (.cells zS 47) = A := ⟨_, rfl⟩
  have bA : Below W.heap.size W A := by rw [← hA]; exact (Below.refl _ W).alloc (Nat.le_refl _) _
  have rA : A.heap[W.heap.size]? = some (.cells zS 47 (0, 0)) := by rw [← hA]; exact heap_alloc_new _ _
  have hj := h.below bA
  have c0 := hj.c0
  have C1 := hj.disk
  have HA := mkHid (And.intro bA (And.intro rA (And.intro (hT.below bA hT.sz) (And.intro hB0 (And.intro hB1 (And.intro hl0 (And.intro hl1 hr)))))))
  unfold zS at hA
  replace hA := mkHid hA
  replace C1 := mkHid C1
  clear bA rA hj h hT hB0 hB1 hl0 hl1 hr
  go_enter Tryd.func20, Tryd.ntmps20
  go_upto_region 1 with fail
  rw [hA.out]
  go_wp2_with fail
  refine C1.out.mono ?_
  rintro e w1 ⟨c, rfl, g0, g1, rfl, r0, r1, q0, q1, q2, bD⟩
  clear C1
  have T1 := HA.out.2.2.1.below bD HA.out.2.2.1.sz
  have C2 := replay_story w1 (bl_row r0 HA.out.2.2.2.1 (by unfold maxLen; have := HA.out; omega)) (bl_row r1 HA.out.2.2.2.2.1 (by unfold maxLen; have := HA.out; omega)) T1 HA.out.2.2.2.2.2.2.2
  have HB := mkHid bD
  clear r0 r1 q0 q1 q2 bD T1
  unfold dkA
  replace C2 := mkHid C2
  go_wp2_with fail
  refine C2.out.mono ?_
  rintro e w2 ⟨t4, t5, rfl, h4, h5, b2⟩
  clear C2
  have hone := styA_one (i := i) (good := s.good) (gen := s.gen) (first := s.first) h4 h5
  obtain ⟨D, hD⟩ : ∃ D, styA i s.good s.gen s.first t4 t5 = D := ⟨_, rfl⟩
  have hD6 : D.size = 6 := by rw [← hD]; rfl
  rw [hD] at hone
  rw [hD]
  have s1 := st_Sn w2 D hD6 hone
  have r2 : w2.heap[W.heap.size]? = some (.cells zS 47 (0, 0)) := by
    have hz : W.heap.size < A.heap.size := (Array.getElem?_eq_some_iff.1 HA.out.2.1).1
    exact (b2.block _ (by have := HB.out.size; omega)).trans ((HB.out.block _ hz).trans HA.out.2.1)
  obtain ⟨E, hE⟩ : ∃ E, w2.alloc (.cells D 47) = E := ⟨_, rfl⟩
  have bE : Below w2.heap.size w2 E := by rw [← hE]; exact (Below.refl _ w2).alloc (Nat.le_refl _) _
  have rE : E.heap[w2.heap.size]? = some (.cells D 47 (0, 0)) := by rw [← hE]; exact heap_alloc_new _ _
  rw [hE] at s1
  have s2 := ld_Sr E w2.heap.size D hD6 rE
  have r3 := (bE.block _ (Array.getElem?_eq_some_iff.1 r2).1).trans r2
  have s3 := st_Sr E W.heap.size zS D rfl hD6 hone r3
  have b02 : Below W.heap.size W E := (HA.out.1.trans (HB.out.mono HA.out.1.size)).trans ((b2.trans (bE.mono b2.size)).mono (Nat.le_trans HA.out.1.size HB.out.size))
  have hB1 : W.heap.size < w1.heap.size := Nat.lt_of_lt_of_le (Array.getElem?_eq_some_iff.1 HA.out.2.1).1 HB.out.size
  have st : ∀ T, Stay w1.heap.size T w2 (E.setRow W.heap.size D) := fun T k c t hk _ hc => (setRow_other _ _ _ _ (by omega)).trans (bE.block k (Array.getElem?_eq_some_iff.1 hc).1)
  have F4 := (h4.keep (st _)).mono (Nat.le_of_lt hB1)
  have F5 := (h5.keep (st _)).mono (Nat.le_of_lt hB1)
  have FB := below_setRow b02 (Nat.le_refl _) D
  have FR := setRow_heap E W.heap.size _ D _ _ r3
  have HF := mkHid (And.intro F4 (And.intro F5 (And.intro FB (And.intro FR hD))))
  clear F4 F5 FB FR hD st b02 r3 rE bE r2 h4 h5 b2
  replace hE := mkHid hE
  go_wp2_with fail
  refine bodyPost_ret (results_S rfl _ _ W.heap.size _ hD6 rfl HF.out.2.2.2.1) rfl ?_
  exact ⟨t4, t5, by rw [HF.out.2.2.2.2], HF.out.1, HF.out.2.1, HF.out.2.2.1⟩
end
end Dev
end Go.Proofs.YtfimaflglnemdaaDoor

/- The journal's rows: begin, and Open of a device that has no journal. -/
namespace Go.Proofs.YtfimaflglnemdaaDoor
open Go.RowKit
open JM
set_option maxRecDepth 20000
namespace Dev
/-- One block is kept off: the journal's own. -/
@[reducible] def hJ (j : Nat) : Inhabited HoleT := ⟨⟨fun g => g = j, j + 1, fun g h e => by omega⟩⟩
@[reducible] def h0 : Inhabited HoleT := ⟨⟨fun _ => False, 0, fun _ _ h => h⟩⟩
theorem Dv.toJ {i0 : Inhabited HoleT} {lo v j : Nat} {W W' : World} {lv : Value} {f : Array Value} {ms : List (Array Value)} {sp : List Sp} (h : @Dv i0 lo W v lv f ms sp) (hb : Below W.heap.size W W') (hj : W.heap.size ≤ j) (hj2 : j < W'.heap.size) : @Dv (hJ j) lo W' v lv f ms sp := by
  have hlt := (@Dv.own i0 _ _ _ _ _ _ _ h).lt
  have hrow := @Dv.row i0 _ _ _ _ _ _ _ h
  refine @Dv.mk (hJ j) _ _ _ _ _ _ _ ((hb.block v (Array.getElem?_eq_some_iff.1 hrow).1).trans hrow) ?_ (@Dv.len i0 _ _ _ _ _ _ _ h) (fun i m s h1 h2 => (@Dv.each i0 _ _ _ _ _ _ _ h i m s h1 h2).keep (fun k q => hb.block k q.2.1) (fun k q => ?_)) (@Dv.lov i0 _ _ _ _ _ _ _ h) hj2
  · obtain ⟨g0, g1⟩ := @Dv.own i0 _ _ _ _ _ _ _ h
    refine ⟨g0, ?_⟩
    rcases g1 with g1 | ⟨g, cap, cur, rfl, hB, hg, hr⟩
    · exact .inl g1
    · exact .inr ⟨g, cap, cur, rfl, hB, (hb.block g (hlt g rfl).2).trans hg, hr⟩
  · refine ⟨⟨q.1.1, fun (e : k = j) => ?_⟩, Nat.lt_of_lt_of_le q.2.1 hb.size, q.2.2⟩
    have := q.2.1
    omega
theorem byt_lb (k n : Nat) : Byt (lb k n) := lb_byt k n
set_option maxRecDepth 100000 in
set_option maxHeartbeats 1600000 in
theorem begin_any {i0 : Inhabited HoleT} {lo v lim : Nat} {W : World} {lv : Value} {f : Array Value} {ms : List (Array Value)} {sp : List Sp} {a b : Nat} (h : @Dv i0 lo W v lv f ms sp) (hx : sp[ms.length]? = some (([], a), ([], b))) (hlo : lo ≤ W.heap.size) (hn : ms.length + 2 < 1000000) (hT : Tc W) (hc0 : 0 < lo) :
    Calls Tryd.prog 41 #[.pointer (some ⟨v, 0, none⟩), .int .i64 (lim : Int)] W fun e w' => ∃ j, e = .returned (.pointer (some ⟨j, 0, none⟩)) ∧ @Jn (hJ j) lo w' j v lim 0 1 0 (ms.length + 2) ((basew 1 1 [], (basew 1 1 []).length), ([], b)) ∧ Fo lo W w' := by
  have C1 := @trim0_no i0 _ _ _ _ _ _ _ h _ hx (by omega) 0 (Nat.zero_le _)
  have HH := mkHid (And.intro h (And.intro hx (And.intro hlo (And.intro hn (And.intro hT hc0)))))
  clear h hx hlo hn hT hc0
  go_enter Tryd.func41, Tryd.ntmps41
  go_wp2_with fail
  refine C1.mono ?_
  rintro e w1 ⟨rfl, b1⟩
  clear C1
  have C2 := @trim1_no i0 _ _ _ _ _ _ _ (@Dv.below i0 _ _ _ _ _ _ _ _ HH.out.1 b1) _ HH.out.2.1 (by have := HH.out.2.2.2.1; omega) 0 (Nat.zero_le _)
  go_wp2_with fail
  refine C2.mono ?_
  rintro e w2 ⟨rfl, b2⟩
  clear C2
  obtain ⟨Z, hZ⟩ : ∃ Z, w2.alloc (.cells #[.pointer (some ⟨v, 0, none⟩), .int .i64 (lim : Int), .int .i64 0, .int .i64 1, .int .i64 0] 101) = Z := ⟨_, rfl⟩
  have bZ : Below w2.heap.size w2 Z := by rw [← hZ]; exact (Below.refl _ w2).alloc (Nat.le_refl _) _
  have rZ : Z.heap[w2.heap.size]? = some (.cells (jrow v lim 0 1 0) 101 (0, 0)) := by rw [← hZ]; exact heap_alloc_new _ _
  obtain ⟨j, hj⟩ : ∃ j, w2.heap.size = j := ⟨_, rfl⟩
  have b02 : Below W.heap.size W w2 := b1.trans (b2.mono b1.size)
  have b0Z : Below W.heap.size W Z := b02.trans (bZ.mono b02.size)
  have dZ : @Dv (hJ j) lo Z v lv f ms sp := Dv.toJ HH.out.1 b0Z (by rw [← hj]; exact b02.size) (by rw [← hj]; exact (Array.getElem?_eq_some_iff.1 rZ).1)
  letI := hJ j
  have h3 : Jn lo Z j v lim 0 1 0 ms.length (([], a), ([], b)) := ⟨⟨lv, f, ms, sp, dZ, rfl, HH.out.2.1⟩, by rw [← hj]; exact rZ, (rfl : j = j), Nat.le_trans HH.out.2.2.1 b0Z.size, by rw [← hj]; exact Nat.le_trans HH.out.2.2.1 b02.size, by have := HH.out.2.2.2.1; omega, Nat.zero_le _⟩
  have hT3 : Tc Z := HH.out.2.2.2.2.1.below b0Z HH.out.2.2.2.2.1.sz
  have h3d := h3.below (below_drew Z)
  have foZ : Fo lo W Z := Fo.of_below b0Z
  have CC : Hid (Calls Tryd.prog 52 #[.int .i64 1, .int .i64 (IntKind.i64.wrap 1), .slice none 0 0] Z.drew fun e w1 => ∃ v', e = .returned v' ∧ Hid (Bl w1 v' (basew 1 1 []) ∧ Below Z.heap.size Z w1) ∧ (w1.cell? ⟨j, 2, none⟩ = some (.int .i64 0) ∧ w1.cell? ⟨j, 3, none⟩ = some (.int .i64 1) ∧ w1.cell? ⟨j, 4, none⟩ = some (.int .i64 0))) := by
    rw [show IntKind.i64.wrap 1 = 1 by rw [IntKind.wrap_i64]; rfl]
    refine (base_lay 1 1 Z.drew (ls := []) (Ll.nil 0 _).lr (hT3.below (below_drew Z) hT3.sz) (by decide)).mono ?_
    rintro e w1 ⟨v', e1, e2, e3⟩
    exact ⟨v', e1, ⟨e2.bl, (below_drew Z).trans e3⟩, (h3d.below e3).c2, (h3d.below e3).c3, (h3d.below e3).c4⟩
  have CD : Hid (∀ w1 v', Hid (Bl w1 v' (basew 1 1 []) ∧ Below Z.heap.size Z w1) → Calls Tryd.prog 29 #[.pointer (some ⟨v, 0, none⟩), .int .i64 0, v'] w1 fun e w' => e = .returned (.int .i64 0) ∧ Hid (Jn lo w' j v lim 0 1 0 (ms.length + 1) ((basew 1 1 [], a), ([], b)) ∧ Fo lo W w') ∧ (w'.cell? ⟨j, 2, none⟩ = some (.int .i64 0) ∧ w'.cell? ⟨j, 3, none⟩ = some (.int .i64 1) ∧ w'.cell? ⟨j, 4, none⟩ = some (.int .i64 0))) := by
    rintro w1 v' ⟨k1, k2⟩
    refine ((h3.below k2).append (by have := HH.out.2.2.2.1; omega) 0 (by decide) v' _ k1 (by rw [basew_len]; simp [fl, sizes])).mono ?_
    rintro e w' ⟨e1, e2, e3⟩
    exact ⟨e1, ⟨e2, foZ.trans ((Fo.of_below k2).trans e3)⟩, e2.c2, e2.c3, e2.c4⟩
  have d0 : Z.drew.cell? ⟨j, 2, none⟩ = some (.int .i64 0) ∧ Z.drew.cell? ⟨j, 3, none⟩ = some (.int .i64 1) ∧ Z.drew.cell? ⟨j, 4, none⟩ = some (.int .i64 0) := ⟨h3d.c2, h3d.c3, h3d.c4⟩
  replace hj := mkHid hj
  replace hZ := mkHid hZ
  clear h3 h3d foZ hT3 dZ b0Z b02 rZ bZ b1 b2
  go_upto_region 4 with fail
  rw [hZ.out, hj.out]
  go_region_held3 (fun w' => w'.cell? ⟨j, 2, none⟩ = some (.int .i64 0) ∧ w'.cell? ⟨j, 3, none⟩ = some (.int .i64 1) ∧ w'.cell? ⟨j, 4, none⟩ = some (.int .i64 0)) (first | assumption | exact d0)
    (first
      | (go_at_call 52; with_reducible refine Calls.mono CC.out ?_; rintro e w3 ⟨v3, rfl, k3, s3⟩)
      | (go_at_call 29; with_reducible refine Calls.mono (CD.out _ _ k3) ?_; rintro e w4 ⟨rfl, k4, s4⟩))
  have CE := k4.out.1.sync (by have := HH.out.2.2.2.1; omega) 0 (by decide)
  obtain ⟨s42, -, -⟩ := s4
  clear CC CD k3 s3 d0
  go_wp2_with fail
  refine CE.mono ?_
  rintro e w5 ⟨rfl, e2, e3⟩
  have HE := mkHid (And.intro e2 (k4.out.2.trans e3))
  clear CE e2 e3
  go_wp2_with fail
  go_ret
  exact ⟨j, rfl, HE.out⟩
theorem results_tmp4 {fn : Func} {t u v x : Tmp} (h : fn.results = #[.tmp t, .tmp u, .tmp v, .tmp x]) (tmps : Array Value) (P : Program) (w : World) :
    (results fn tmps).run P w = .ok (.tuple #[tmps.getD t undef, tmps.getD u undef, tmps.getD v undef, tmps.getD x undef]) w := by simp [results, h]
theorem rep_nil : rep [] [] = .none := by
  have h : file crcN [] = (St.new, none) := rfl
  rw [rep_pick (by decide) (by rw [h]) (by decide) (by rw [h]), h]
  rfl
attribute [local go_sem ↓] toStSt toLdSt in
set_option maxRecDepth 100000 in
set_option maxHeartbeats 1600000 in
theorem Open_new {i0 : Inhabited HoleT} {lo v lim : Nat} {W : World} {lv : Value} {f : Array Value} {ms : List (Array Value)} {sp : List Sp} {a b : Nat} (h : @Dv i0 lo W v lv f ms sp) (hx : sp[ms.length]? = some (([], a), ([], b))) (hlo : lo ≤ W.heap.size) (hn : ms.length + 2 < 1000000) (hT : Tc W) (hc0 : 0 < lo) (hlim : lim ≤ 67108864) (hlim2 : 64 ≤ lim) :
    Calls Tryd.prog 13 #[.pointer (some ⟨v, 0, none⟩), .int .i64 (lim : Int)] W fun e w' => ∃ j, e = .returned (.tuple #[.pointer (some ⟨j, 0, none⟩), .int .i64 0, .int .i64 0, .int .i64 0]) ∧ @Jn (hJ j) lo w' j v lim 0 1 0 (ms.length + 2) ((basew 1 1 [], (basew 1 1 []).length), ([], b)) ∧ Fo lo W w' := by
  have C1 := @Disk_any i0 _ _ _ _ _ _ _ h _ hx (by omega)
  have q1 : ¬ (lim : Int) < 64 := by omega
  have q2 : ¬ (67108864 : Int) < (lim : Int) := by omega
  have HH := mkHid (And.intro h (And.intro hx (And.intro hlo (And.intro hn (And.intro hT hc0)))))
  replace C1 := mkHid C1
  clear h hx hlo hn hT hc0
  go_enter Tryd.func13, Tryd.ntmps13
  go_wp2_with fail
  refine C1.out.mono ?_
  rintro e w1 ⟨c, rfl, g0, g1, rfl, r0, r1, p0, p1, p2, bD⟩
  clear C1
  have T1 := HH.out.2.2.2.2.1.below bD HH.out.2.2.2.2.1.sz
  have C2 := replay_none w1 (bl_row (l := []) r0 (fun x h => by cases h) (Nat.zero_le _)) (bl_row (l := []) r1 (fun x h => by cases h) (Nat.zero_le _)) T1 rep_nil
  replace C2 := mkHid C2
  have HB := mkHid bD
  clear r0 r1 p0 p1 p2 bD T1
  unfold dkA
  go_wp2_with fail
  refine C2.out.mono ?_
  rintro e w2 ⟨rfl, b2⟩
  clear C2
  have s1 := st_Sn w2 #[.int .i64 (-1), .int .i64 0, .int .i64 0, .int .i64 0, .slice none 0 0, .slice none 0 0] rfl (by simp [Value.oneCell'])
  obtain ⟨E, hE⟩ : ∃ E, w2.alloc (.cells #[.int .i64 (-1), .int .i64 0, .int .i64 0, .int .i64 0, .slice none 0 0, .slice none 0 0] 47) = E := ⟨_, rfl⟩
  have bE : Below w2.heap.size w2 E := by rw [← hE]; exact (Below.refl _ w2).alloc (Nat.le_refl _) _
  have rE : E.heap[w2.heap.size]? = some (.cells #[.int .i64 (-1), .int .i64 0, .int .i64 0, .int .i64 0, .slice none 0 0, .slice none 0 0] 47 (0, 0)) := by rw [← hE]; exact heap_alloc_new _ _
  rw [hE] at s1
  have c0 : E.cell? ⟨w2.heap.size, 0, none⟩ = some (.int .i64 (-1)) := (cell_of_row _ _ _ _ _ _ rE).trans rfl
  have b0E : Below W.heap.size W E := HB.out.trans ((b2.trans (bE.mono b2.size)).mono HB.out.size)
  have C3 := begin_any (lim := lim) (@Dv.below i0 _ _ _ _ _ _ _ _ HH.out.1 b0E) HH.out.2.1 (Nat.le_trans HH.out.2.2.1 b0E.size) HH.out.2.2.2.1 (HH.out.2.2.2.2.1.below b0E HH.out.2.2.2.2.1.sz) HH.out.2.2.2.2.2
  replace hE := mkHid hE
  have HE := mkHid b0E
  clear b0E rE bE b2
  go_wp2_with fail
  refine C3.mono ?_
  rintro e w3 ⟨j, rfl, k1, k2⟩
  have HF := mkHid (And.intro k1 ((Fo.of_below HE.out).trans k2))
  clear C3 k1 k2
  go_wp2_with fail
  refine bodyPost_ret (results_tmp4 rfl _ _ _) rfl ?_
  exact ⟨j, rfl, HF.out⟩
end Dev
end Go.Proofs.YtfimaflglnemdaaDoor
