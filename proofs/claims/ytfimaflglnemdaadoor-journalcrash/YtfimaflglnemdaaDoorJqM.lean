/- Several texts in one: JzA, JzB. -/
import Derived.Test.YtfimaflglnemdaaDoorJuT
/- The journal's rows: the journal with its device's whole history; Compact with it. -/
namespace Go.Proofs.YtfimaflglnemdaaDoor
open Go.RowKit
open JM
set_option maxRecDepth 20000
namespace Dev
/-- A journal as it lies, with all moments of its device. -/
structure Jh [Inhabited HoleT] (lo : Nat) (W : World) (j v lim live gen last : Nat) (sp : List Sp) : Prop where
  dv : ∃ lv f ms, Dv lo W v lv f ms sp
  row : W.heap[j]? = some (.cells (jrow v lim live gen last) 101 (0, 0))
  hole : inHole j
  hlo : lo ≤ W.heap.size
  loj : lo ≤ j
  big : sp.length ≤ 1000000
  live1 : live ≤ 1
section
variable [Inhabited HoleT] {lo j v lim live gen last n : Nat} {W : World} {x : Sp} {sp pre : List Sp}
theorem Jh.jn (h : Jh lo W j v lim live gen last (pre ++ [x])) : Jn lo W j v lim live gen last pre.length x := by
  obtain ⟨lv, f, ms, h1⟩ := h.dv
  have hl := h1.len
  have hb := h.big
  rw [List.length_append, List.length_singleton] at hl hb
  exact ⟨⟨lv, f, ms, pre ++ [x], h1, by omega, by rw [List.getElem?_append_right (Nat.le_refl _), Nat.sub_self]; rfl⟩, h.row, h.hole, h.hlo, h.loj, by omega, h.live1⟩
theorem Jh.below {W' : World} (h : Jh lo W j v lim live gen last sp) (hb : Below W.heap.size W W') : Jh lo W' j v lim live gen last sp := by
  obtain ⟨lv, f, ms, h1⟩ := h.dv
  exact ⟨⟨lv, f, ms, h1.below hb⟩, (hb.block j (Array.getElem?_eq_some_iff.1 h.row).1).trans h.row, h.hole, Nat.le_trans h.hlo hb.size, h.loj, h.big, h.live1⟩
theorem Jh.fz (h : Jh lo W j v lim live gen last sp) (k : Nat) : W.frozen? ⟨j, k, none⟩ = false := frozen_of_row _ _ _ _ _ h.row
theorem Jh.put (h : Jh lo W j v lim live gen last sp) (R : Array Value) : Fo lo W (W.setRow j R) ∧ ∃ lv f ms, Dv lo (W.setRow j R) v lv f ms sp := by
  obtain ⟨lv, f, ms, h1⟩ := h.dv
  refine ⟨⟨rfl, rfl, rfl, by rw [size_setRow]; exact Nat.le_refl _, fun k hk _ => setRow_other _ _ _ _ (by have := h.loj; omega), fun k c t hc _ _ ht => setRow_other _ _ _ _ (row_ne hc h.row ht), fun k o hk ho => (setRow_other _ _ _ _ (fun e => by
    rw [e, h.row] at hk
    injection hk with hk
    subst hk
    exact ho _ _ rfl)).trans hk⟩, lv, f, ms, ?_⟩
  refine h1.keepH (j := j) (by rw [size_setRow]; exact Nat.le_refl _) (fun k _ hk => setRow_other _ _ _ _ hk) h.hole (row_ne h1.row h.row (by decide)) (fun e => ?_)
  obtain ⟨-, -, cur, h5⟩ := h1.ownrow e
  exact row_ne h5 h.row (by decide) rfl
theorem Jh.setL (h : Jh lo W j v lim live gen last sp) (i : Nat) (hi : i ≤ 1) : Jh lo (W.setCell ⟨j, 2, none⟩ (.int .i64 (i : Int))) j v lim i gen last sp ∧ Fo lo W (W.setCell ⟨j, 2, none⟩ (.int .i64 (i : Int))) := by
  rw [setCell_eq_setRow W j 2 _ _ _ _ h.row]
  obtain ⟨p1, p2⟩ := h.put (jrow v lim i gen last)
  exact ⟨⟨p2, setRow_heap _ _ _ _ _ _ h.row, h.hole, by rw [size_setRow]; exact h.hlo, h.loj, h.big, hi⟩, p1⟩
theorem Jh.setG (h : Jh lo W j v lim live gen last sp) (g : Nat) : Jh lo (W.setCell ⟨j, 3, none⟩ (.int .i64 (g : Int))) j v lim live g last sp ∧ Fo lo W (W.setCell ⟨j, 3, none⟩ (.int .i64 (g : Int))) := by
  rw [setCell_eq_setRow W j 3 _ _ _ _ h.row]
  obtain ⟨p1, p2⟩ := h.put (jrow v lim live g last)
  exact ⟨⟨p2, setRow_heap _ _ _ _ _ _ h.row, h.hole, by rw [size_setRow]; exact h.hlo, h.loj, h.big, h.live1⟩, p1⟩
theorem Jh.setN (h : Jh lo W j v lim live gen last sp) (g : Nat) : Jh lo (W.setCell ⟨j, 4, none⟩ (.int .i64 (g : Int))) j v lim live gen g sp ∧ Fo lo W (W.setCell ⟨j, 4, none⟩ (.int .i64 (g : Int))) := by
  rw [setCell_eq_setRow W j 4 _ _ _ _ h.row]
  obtain ⟨p1, p2⟩ := h.put (jrow v lim live gen g)
  exact ⟨⟨p2, setRow_heap _ _ _ _ _ _ h.row, h.hole, by rw [size_setRow]; exact h.hlo, h.loj, h.big, h.live1⟩, p1⟩
theorem Jh.did (h : Jh lo W j v lim live gen last sp) (hn : sp.length < 1000000) {lv : Value} {f : Array Value} {ms : List (Array Value)} (hd : Dv lo W v lv f ms sp) {x' : Sp} {e : Ending} {w' : World} (hp : DoP lo W v lv f ms sp x' e w') : e = .returned (.int .i64 0) ∧ Jh lo w' j v lim live gen last (sp ++ [x']) ∧ Fo lo W w' := by
  obtain ⟨h1, lv', m', h2, h3⟩ := hp
  have hjv : j ≠ v := row_ne h.row hd.row (by decide)
  have hjl : lv.ownBlock ≠ some j := fun e => by
    obtain ⟨-, -, cur, h5⟩ := hd.ownrow e
    exact row_ne h5 h.row (by decide) rfl
  exact ⟨h1, ⟨⟨lv', f, ms ++ [m'], h2⟩, (h3.block j (Array.getElem?_eq_some_iff.1 h.row).1 hjv hjl).trans h.row, h.hole, Nat.le_trans h.hlo h3.size, h.loj, by rw [List.length_append, List.length_singleton]; omega, h.live1⟩, h3.fo hd⟩
theorem Jh.last_at {lv : Value} {f : Array Value} {ms : List (Array Value)} (h1 : Dv lo W v lv f ms (pre ++ [x])) : (pre ++ [x])[ms.length]? = some x := by
  have hl := h1.len
  rw [List.length_append, List.length_singleton] at hl
  have rfl' : ms.length = pre.length := by omega
  rw [rfl', List.getElem?_append_right (Nat.le_refl _), Nat.sub_self]
  rfl
theorem Jh.append (h : Jh lo W j v lim live gen last (pre ++ [x])) (hn : pre.length + 1 < 1000000) (i : Nat) (hi : i ≤ 1) (u : Value) (l : List Nat) (hl : Bl W u l) (hroom : (fl x i).1.length + l.length ≤ 67108864) : Calls Tryd.prog 29 #[.pointer (some ⟨v, 0, none⟩), .int .i64 (i : Int), u] W fun e w' => e = .returned (.int .i64 0) ∧ Jh lo w' j v lim live gen last ((pre ++ [x]) ++ [up x i ((fl x i).1 ++ l, (fl x i).2)]) ∧ Fo lo W w' := by
  obtain ⟨lv, f, ms, h1⟩ := h.dv
  have hm := h1.len
  rw [List.length_append, List.length_singleton] at hm
  exact (appendI h1 h.hlo x (Jh.last_at h1) (by omega) i hi u l hl hroom).mono (fun e w' hp => h.did (by rw [List.length_append, List.length_singleton]; omega) h1 hp)
theorem Jh.sync (h : Jh lo W j v lim live gen last (pre ++ [x])) (hn : pre.length + 1 < 1000000) (i : Nat) (hi : i ≤ 1) : Calls Tryd.prog 30 #[.pointer (some ⟨v, 0, none⟩), .int .i64 (i : Int)] W fun e w' => e = .returned (.int .i64 0) ∧ Jh lo w' j v lim live gen last ((pre ++ [x]) ++ [up x i ((fl x i).1, (fl x i).1.length)]) ∧ Fo lo W w' := by
  obtain ⟨lv, f, ms, h1⟩ := h.dv
  have hm := h1.len
  rw [List.length_append, List.length_singleton] at hm
  exact (syncI h1 h.hlo x (Jh.last_at h1) (by omega) i hi).mono (fun e w' hp => h.did (by rw [List.length_append, List.length_singleton]; omega) h1 hp)
theorem Jh.cut (h : Jh lo W j v lim live gen last (pre ++ [x])) (hn : pre.length + 1 < 1000000) (i : Nat) (hi : i ≤ 1) : Calls Tryd.prog 31 #[.pointer (some ⟨v, 0, none⟩), .int .i64 (i : Int), .int .i64 0] W fun e w' => e = .returned (.int .i64 0) ∧ Jh lo w' j v lim live gen last ((pre ++ [x]) ++ [up x i ([], 0)]) ∧ Fo lo W w' := by
  obtain ⟨lv, f, ms, h1⟩ := h.dv
  have hm := h1.len
  rw [List.length_append, List.length_singleton] at hm
  exact (cutI h1 h.hlo x (Jh.last_at h1) (by omega) i hi).mono (fun e w' hp => h.did (by rw [List.length_append, List.length_singleton]; omega) h1 hp)
set_option maxRecDepth 100000 in
set_option maxHeartbeats 1600000 in
theorem Compact_hist {B o : Nat} {u : Value} {ls : List (List Nat)} (h : Jh lo W j v lim live gen last (pre ++ [x])) (ho : o ≤ 1) (hol : o + live = 1) (hu : Ll B W u ls) (hg : Gl ls) (hT : Tc W) (h0 : 0 < lo) (hgen : gen < 4611686018427387904) (hlast : last < 4611686018427387904) (hs : sizes ls < 70000000) (hL : (fl x o).1 = []) (hlim : lim ≤ 67108864) (hfit : 52 + sizes ls ≤ lim) (hn : pre.length + 3 < 1000000) :
    Calls Tryd.prog 23 #[.pointer (some ⟨j, 0, none⟩), u] W fun e w' => e = .returned (.int .i64 0) ∧ Jh lo w' j v lim o (gen + 1) last (pre ++ [x] ++ [up x o (basew (gen + 1) (last + 1) ls, (fl x o).2)] ++ [up x o (basew (gen + 1) (last + 1) ls, (basew (gen + 1) (last + 1) ls).length)] ++ [up (up x o (basew (gen + 1) (last + 1) ls, (basew (gen + 1) (last + 1) ls).length)) live ([], 0)]) ∧ Fo lo W w' := by
  have C1 := tooLong_no W hu.lr hg
  have C2 := other_any (live : Int) (by omega) (by omega) W
  have C3 := base_size W hu.lr (by omega)
  have C4 := fits_any h.jn o ho (52 + sizes ls) (by omega) (by rw [hL]; simp)
  rw [hL, List.length_nil, Nat.zero_add, decide_eq_true hfit] at C4
  obtain ⟨z, hz⟩ : ∃ z, 52 + sizes ls = z := ⟨_, rfl⟩
  rw [hz] at C3 C4
  have hoi : 1 - (live : Int) = (o : Int) := by omega
  rw [hoi] at C2
  have c2 := h.jn.c2
  have c3 := h.jn.c3
  have c4 := h.jn.c4
  have hl3 : Hid (decide ((4611686018427387904 : Int) ≤ (gen : Int)) = false) := by show decide _ = false; rw [decide_eq_false]; omega
  have hl4 : Hid (decide ((4611686018427387904 : Int) ≤ (last : Int)) = false) := by show decide _ = false; rw [decide_eq_false]; omega
  have hl5 : last < 9000000000000000000 := by omega
  have hl6 : gen < 9000000000000000000 := by omega
  obtain ⟨ou, cu, rfl⟩ := hu.sl
  replace C4 := mkHid C4
  have HH := mkHid (And.intro h (And.intro hu (And.intro hT hoi)))
  have HS := mkHid (And.intro hs (And.intro hL (And.intro hlim (And.intro hfit (And.intro ho hol)))))
  clear h hu hg hlast hs hL hfit hz hgen hol ho hlim hT hoi
  go_enter Tryd.func23, Tryd.ntmps23
  go_wp2_with fail
  refine C1.mono ?_
  rintro e w ⟨rfl, rfl⟩
  clear C1
  go_upto_region 5 with fail
  have hq3 := hl3.out
  have hq4 := hl4.out
  clear hl3 hl4
  go_upto_region 7 with fail
  clear hq3 hq4
  go_wp2_with fail
  refine C2.mono ?_
  rintro e w2 ⟨rfl, rfl⟩
  clear C2
  go_wp2_with fail
  refine C3.mono ?_
  rintro e w3 ⟨rfl, rfl⟩
  clear C3
  go_wp2_with fail
  refine C4.out.mono ?_
  rintro e w4 ⟨rfl, hb⟩
  clear C4
  have h2 := HH.out.1.below hb
  have e2 := h2.jn.c2
  have C5 := other_any (live : Int) (by have := HS.out; omega) (by have := HS.out; omega) w4
  rw [HH.out.2.2.2] at C5
  clear c2 c3 c4
  go_upto_region 10 with fail
  go_wp2_with fail
  refine C5.mono ?_
  rintro e w5 ⟨rfl, hw5⟩
  subst hw5
  clear C5
  have f2 := h2.fz 2
  obtain ⟨h3, fo3⟩ := h2.setL o HS.out.2.2.2.2.1
  obtain ⟨Y, hY⟩ : ∃ Y, w5.setCell ⟨j, 2, none⟩ (.int .i64 (o : Int)) = Y := ⟨_, rfl⟩
  rw [hY] at h3 fo3
  have g3 := h3.jn.c3
  have fg3 := h3.fz 3
  obtain ⟨h4, fo4⟩ := h3.setG (gen + 1)
  rw [Int.natCast_succ] at h4 fo4
  obtain ⟨Z, hZ⟩ : ∃ Z, Y.setCell ⟨j, 3, none⟩ (.int .i64 ((gen : Int) + 1)) = Z := ⟨_, rfl⟩
  rw [hZ] at h4 fo4
  have fo : Fo lo w3 Z := (Fo.of_below hb).trans (fo3.trans fo4)
  have hu3 := HH.out.2.1.keep (fo.stay ll_ty)
  have hT3 := HH.out.2.2.1.below (fo.below HH.out.1.hlo) h0
  have h3d := h4.below (below_drew Z)
  have CC : Hid (Calls Tryd.prog 52 #[.int .i64 ((gen : Int) + 1), .int .i64 (IntKind.i64.wrap ((last : Int) + 1)), .slice ou ls.length cu] Z.drew fun e w1 => ∃ v', e = .returned v' ∧ Hid (Bl w1 v' (basew (gen + 1) (last + 1) ls) ∧ Below Z.heap.size Z w1) ∧ (w1.cell? ⟨j, 0, none⟩ = some (.pointer (some ⟨v, 0, none⟩)) ∧ w1.cell? ⟨j, 2, none⟩ = some (.int .i64 (o : Int)) ∧ w1.cell? ⟨j, 3, none⟩ = some (.int .i64 ((gen : Int) + 1)) ∧ w1.cell? ⟨j, 4, none⟩ = some (.int .i64 (last : Int)))) := by
    rw [show IntKind.i64.wrap ((last : Int) + 1) = ((last + 1 : Nat) : Int) by rw [IntKind.wrap_i64]; omega]
    refine (base_lay (gen + 1) (last + 1) Z.drew (hu3.lr.below (below_drew Z)) (hT3.below (below_drew Z) hT3.sz) HS.out.1).mono ?_
    rintro e w1 ⟨v', e1, e2, e3⟩
    exact ⟨v', e1, ⟨e2.bl, (below_drew Z).trans e3⟩, (h3d.below e3).jn.c0, (h3d.below e3).jn.c2, (h3d.below e3).jn.c3, (h3d.below e3).jn.c4⟩
  have CD : Hid (∀ w1 v', Hid (Bl w1 v' (basew (gen + 1) (last + 1) ls) ∧ Below Z.heap.size Z w1) → Calls Tryd.prog 29 #[.pointer (some ⟨v, 0, none⟩), .int .i64 (o : Int), v'] w1 fun e w' => e = .returned (.int .i64 0) ∧ Hid (Jh lo w' j v lim o (gen + 1) last (pre ++ [x] ++ [up x o (basew (gen + 1) (last + 1) ls, (fl x o).2)]) ∧ Fo lo w3 w') ∧ (w'.cell? ⟨j, 0, none⟩ = some (.pointer (some ⟨v, 0, none⟩)) ∧ w'.cell? ⟨j, 2, none⟩ = some (.int .i64 (o : Int)) ∧ w'.cell? ⟨j, 3, none⟩ = some (.int .i64 ((gen : Int) + 1)) ∧ w'.cell? ⟨j, 4, none⟩ = some (.int .i64 (last : Int)))) := by
    rintro w1 v' ⟨k1, k2⟩
    have hL := HS.out.2.1
    refine ((h4.below k2).append (by omega) o h4.live1 v' _ k1 (by rw [basew_len, hL, List.length_nil]; have := HS.out; omega)).mono ?_
    rintro e w' ⟨e1, e2, e3⟩
    rw [hL, List.nil_append] at e2
    exact ⟨e1, ⟨e2, fo.trans ((Fo.of_below k2).trans e3)⟩, e2.jn.c0, e2.jn.c2, e2.jn.c3, e2.jn.c4⟩
  have d0 : Z.drew.cell? ⟨j, 0, none⟩ = some (.pointer (some ⟨v, 0, none⟩)) ∧ Z.drew.cell? ⟨j, 2, none⟩ = some (.int .i64 (o : Int)) ∧ Z.drew.cell? ⟨j, 3, none⟩ = some (.int .i64 ((gen : Int) + 1)) ∧ Z.drew.cell? ⟨j, 4, none⟩ = some (.int .i64 (last : Int)) := ⟨h3d.jn.c0, h3d.jn.c2, h3d.jn.c3, h3d.jn.c4⟩
  clear h2 h3 fo3 fo4 h4 fo hu3 hT3 h3d HH hb
  go_upto_region 12 with fail
  go_region_held3 (fun w' => w'.cell? ⟨j, 0, none⟩ = some (.pointer (some ⟨v, 0, none⟩)) ∧ w'.cell? ⟨j, 2, none⟩ = some (.int .i64 (o : Int)) ∧ w'.cell? ⟨j, 3, none⟩ = some (.int .i64 ((gen : Int) + 1)) ∧ w'.cell? ⟨j, 4, none⟩ = some (.int .i64 (last : Int))) (first | assumption | exact d0)
    (first
      | (go_at_call 52; with_reducible refine Calls.mono CC.out ?_; rintro e wx ⟨v3, rfl, k3, s3⟩)
      | (go_at_call 29; with_reducible refine Calls.mono (CD.out _ _ k3) ?_; rintro e w4 ⟨rfl, k4, s4⟩))
  have h4d := k4.out.1.below (below_drew w4)
  have CE : Hid (Calls Tryd.prog 30 #[.pointer (some ⟨v, 0, none⟩), .int .i64 (o : Int)] w4.drew fun e w' => e = .returned (.int .i64 0) ∧ Hid (Jh lo w' j v lim o (gen + 1) last (pre ++ [x] ++ [up x o (basew (gen + 1) (last + 1) ls, (fl x o).2)] ++ [up x o (basew (gen + 1) (last + 1) ls, (basew (gen + 1) (last + 1) ls).length)]) ∧ Fo lo w3 w') ∧ (w'.cell? ⟨j, 0, none⟩ = some (.pointer (some ⟨v, 0, none⟩)) ∧ w'.cell? ⟨j, 2, none⟩ = some (.int .i64 (o : Int)))) := by
    refine (h4d.sync (by simp; omega) o h4d.live1).mono ?_
    rintro e w' ⟨e1, e2, e3⟩
    rw [fl_same, up_up] at e2
    exact ⟨e1, ⟨e2, k4.out.2.trans ((Fo.of_below (below_drew w4)).trans e3)⟩, e2.jn.c0, e2.jn.c2⟩
  have d5 : w4.drew.cell? ⟨j, 0, none⟩ = some (.pointer (some ⟨v, 0, none⟩)) ∧ w4.drew.cell? ⟨j, 2, none⟩ = some (.int .i64 (o : Int)) := ⟨s4.1, s4.2.1⟩
  clear h4d CC CD k3 s3 d0
  go_upto_region 13 with fail
  go_region_held3 (fun w' => w'.cell? ⟨j, 0, none⟩ = some (.pointer (some ⟨v, 0, none⟩)) ∧ w'.cell? ⟨j, 2, none⟩ = some (.int .i64 (o : Int))) (first | assumption | exact d5)
    (first
      | (go_at_call 30; with_reducible refine Calls.mono CE.out ?_; rintro e w6 ⟨rfl, k6, s6⟩))
  obtain ⟨s60, -⟩ := s6
  have CF := k6.out.1.cut (by simp; omega) live (by have := HS.out; omega)
  go_wp2_with fail
  refine CF.mono ?_
  rintro e w7 ⟨rfl, k7, k8⟩
  have HE := mkHid (And.intro k7 (k6.out.2.trans k8))
  clear CF k7 k8
  go_wp2_with fail
  go_ret
  exact ⟨rfl, HE.out⟩
end
end Dev
end Go.Proofs.YtfimaflglnemdaaDoor

/- The journal's rows: trim in all its cases; resume; Open of a disk that has a journal. -/
namespace Go.Proofs.YtfimaflglnemdaaDoor
open Go.RowKit
open JM
set_option maxRecDepth 20000
namespace Dev
/-- What a trim does: the moment behind it, and the moments that it adds. -/
def trx (x : Sp) (i n : Nat) : Sp := if n < (fl x i).1.length then up x i ((fl x i).1.take n, min (fl x i).2 n) else x
def trs (x : Sp) (i n : Nat) : List Sp := if n < (fl x i).1.length then [up x i ((fl x i).1.take n, min (fl x i).2 n)] else []
theorem trs_pre (pre : List Sp) (x : Sp) (i n : Nat) : ∃ pre', pre ++ [x] ++ trs x i n = pre' ++ [trx x i n] ∧ pre'.length ≤ pre.length + 1 := by
  unfold trs trx
  split
  · exact ⟨pre ++ [x], rfl, by simp⟩
  · exact ⟨pre, by simp, by omega⟩
section
variable {lo v : Nat} {W : World} {lv : Value} {f : Array Value} {ms : List (Array Value)} {pre : List Sp} {x : Sp}
theorem trim_any {i0 : Inhabited HoleT} (h : @Dv i0 lo W v lv f ms (pre ++ [x])) (hlo : lo ≤ W.heap.size) (hbig : pre.length + 1 < 1000000) (i : Nat) (hi : i ≤ 1) (n : Nat) :
    Calls Tryd.prog 64 #[.pointer (some ⟨v, 0, none⟩), .int .i64 (i : Int), .int .i64 (n : Int)] W fun e w' => e = .returned (.tuple #[]) ∧ (∃ lv' ms', @Dv i0 lo w' v lv' f ms' (pre ++ [x] ++ trs x i n)) ∧ Fo lo W w' := by
  letI := i0
  have hm := h.len
  rw [List.length_append, List.length_singleton] at hm
  have hx := Jh.last_at h
  by_cases hc : n < (fl x i).1.length
  · have e1 : trs x i n = [up x i ((fl x i).1.take n, min (fl x i).2 n)] := if_pos hc
    rw [e1]
    obtain rfl | rfl : i = 0 ∨ i = 1 := by omega
    · refine (trim0_cut h hlo x hx (by omega) n hc).mono ?_
      rintro e w' ⟨rfl, w, hb, hd⟩
      obtain ⟨-, lv', m', h2, h3⟩ := hd
      exact ⟨rfl, ⟨lv', _, h2⟩, (Fo.of_below hb).trans (h3.fo (h.below hb))⟩
    · refine (trim1_cut h hlo x hx (by omega) n hc).mono ?_
      rintro e w' ⟨rfl, w, hb, hd⟩
      obtain ⟨-, lv', m', h2, h3⟩ := hd
      exact ⟨rfl, ⟨lv', _, h2⟩, (Fo.of_below hb).trans (h3.fo (h.below hb))⟩
  · have e1 : trs x i n = [] := if_neg hc
    rw [e1, List.append_nil]
    obtain rfl | rfl : i = 0 ∨ i = 1 := by omega
    · refine (trim0_no h x hx (by omega) n (Nat.le_of_not_lt hc)).mono ?_
      rintro e w' ⟨rfl, hb⟩
      exact ⟨rfl, ⟨lv, _, h.below hb⟩, Fo.of_below hb⟩
    · refine (trim1_no h x hx (by omega) n (Nat.le_of_not_lt hc)).mono ?_
      rintro e w' ⟨rfl, hb⟩
      exact ⟨rfl, ⟨lv, _, h.below hb⟩, Fo.of_below hb⟩
end
/-- The moments behind resume. -/
def rsx (x : Sp) (i n : Nat) : Sp := trx (trx x i n) (1 - i) 0
def rss (x : Sp) (i n : Nat) : List Sp := trs x i n ++ trs (trx x i n) (1 - i) 0
set_option maxRecDepth 100000 in
set_option maxHeartbeats 1600000 in
theorem resume_any {i0 : Inhabited HoleT} {lo v lim : Nat} {W : World} {lv : Value} {f : Array Value} {ms : List (Array Value)} {pre : List Sp} {x : Sp} {B i good gen first : Nat} {t4 t5 : Value} {bl : List (List Nat)} {bt : List (List (List Nat))} (h : @Dv i0 lo W v lv f ms (pre ++ [x])) (hlo : lo ≤ W.heap.size) (hbig : pre.length + 3 < 1000000) (hi : i ≤ 1) (h4 : Ll B W t4 bl) (h5 : Lb B W t5 bt) (hf1 : 1 ≤ first) (hf2 : first + bt.length < 9000000000000000000) :
    Calls Tryd.prog 42 #[.pointer (some ⟨v, 0, none⟩), .int .i64 (lim : Int), .agg (styA i good gen first t4 t5)] W fun e w' => ∃ j, e = .returned (.pointer (some ⟨j, 0, none⟩)) ∧ @Jh (hJ j) lo w' j v lim i gen (first - 1 + bt.length) (pre ++ [x] ++ rss x i good) ∧ Fo lo W w' := by
  obtain ⟨o4, c4, rfl⟩ := h4.sl
  obtain ⟨o5, c5, rfl⟩ := h5.sl
  obtain ⟨N, hN⟩ : ∃ N, bt.length = N := ⟨_, rfl⟩
  rw [hN] at hf2
  rw [hN]
  obtain ⟨V, hV⟩ : ∃ V, W.alloc (.cells #[.int .i64 (i : Int), .int .i64 (good : Int), .int .i64 (gen : Int), .int .i64 (first : Int), .slice o4 bl.length c4, .slice o5 N c5] 47) = V := ⟨_, rfl⟩
  have bV : Below W.heap.size W V := by rw [← hV]; exact (Below.refl _ W).alloc (Nat.le_refl _) _
  have rV : V.heap[W.heap.size]? = some (.cells #[.int .i64 (i : Int), .int .i64 (good : Int), .int .i64 (gen : Int), .int .i64 (first : Int), .slice o4 bl.length c4, .slice o5 N c5] 47 (0, 0)) := by rw [← hV]; exact heap_alloc_new _ _
  have c0 : V.cell? ⟨W.heap.size, 0, none⟩ = some (.int .i64 (i : Int)) := (cell_of_row _ _ _ _ _ _ rV).trans rfl
  have c1 : V.cell? ⟨W.heap.size, 1, none⟩ = some (.int .i64 (good : Int)) := (cell_of_row _ _ _ _ _ _ rV).trans rfl
  have C1 := trim_any (@Dv.below i0 _ _ _ _ _ _ _ _ h bV) (Nat.le_trans hlo bV.size) (by omega) i hi good
  obtain ⟨pre', hp, hpl⟩ := trs_pre pre x i good
  rw [hp] at C1
  have e1i : (1 : Int) - (i : Int) = ((1 - i : Nat) : Int) := by omega
  have wf : IntKind.i64.wrap ((first : Int) - 1) = ((first - 1 : Nat) : Int) := by rw [IntKind.wrap_i64]; omega
  have wl : IntKind.i64.wrap (((first - 1 : Nat) : Int) + (N : Int)) = ((first - 1 + N : Nat) : Int) := by rw [IntKind.wrap_i64]; omega
  have HH := mkHid (And.intro bV (And.intro rV (And.intro hlo (And.intro hbig (And.intro hi (And.intro hp hpl))))))
  have hi0 : (0 : Int) ≤ (i : Int) := by omega
  have hi1 : (i : Int) ≤ 1 := by omega
  clear h h4 h5 hlo hbig hi hf1 hf2 hp hpl bV rV
  unfold styA
  go_enter Tryd.func42, Tryd.ntmps42
  go_upto_region 1 with fail
  try rw [hV]
  go_wp2_with fail
  refine C1.mono ?_
  rintro e w1 ⟨rfl, ⟨lv1, ms1, d1⟩, fo1⟩
  clear C1 c0 c1 hV
  have r1 := fo1.row HH.out.2.1 (by decide) (by decide) (by decide)
  have c0 : w1.cell? ⟨W.heap.size, 0, none⟩ = some (.int .i64 (i : Int)) := (cell_of_row _ _ _ _ _ _ r1).trans rfl
  have C2 := other_any (i : Int) hi0 hi1 w1
  rw [e1i] at C2
  have C3 := trim_any d1 (Nat.le_trans HH.out.2.2.1 (Nat.le_trans HH.out.1.size fo1.size)) (by have := HH.out; omega) (1 - i) (by omega) 0
  rw [show ((0 : Nat) : Int) = 0 from rfl] at C3
  have H1 := mkHid (And.intro r1 fo1)
  clear d1 r1 fo1
  go_wp2_with fail
  refine C2.mono ?_
  rintro e w1' ⟨rfl, hw⟩
  subst hw
  clear C2
  go_wp2_with fail
  refine C3.mono ?_
  rintro e w2 ⟨rfl, ⟨lv2, ms2, d2⟩, fo2⟩
  clear C3 c0
  have r2 := fo2.row H1.out.1 (by decide) (by decide) (by decide)
  have c0 : w2.cell? ⟨W.heap.size, 0, none⟩ = some (.int .i64 (i : Int)) := (cell_of_row _ _ _ _ _ _ r2).trans rfl
  have c2 : w2.cell? ⟨W.heap.size, 2, none⟩ = some (.int .i64 (gen : Int)) := (cell_of_row _ _ _ _ _ _ r2).trans rfl
  have c3 : w2.cell? ⟨W.heap.size, 3, none⟩ = some (.int .i64 (first : Int)) := (cell_of_row _ _ _ _ _ _ r2).trans rfl
  have c5 : w2.cell? ⟨W.heap.size, 5, none⟩ = some (.slice o5 N c5) := (cell_of_row _ _ _ _ _ _ r2).trans rfl
  have H2 := mkHid (And.intro d2 (H1.out.2.trans fo2))
  clear d2 r2 fo2
  go_wp2_with fail
  rw [show ((first - 1 : Nat) : Int) + (N : Int) = ((first - 1 + N : Nat) : Int) from (Int.natCast_add _ _).symm]
  obtain ⟨Z, hZ⟩ : ∃ Z, w2.alloc (.cells #[.pointer (some ⟨v, 0, none⟩), .int .i64 (lim : Int), .int .i64 (i : Int), .int .i64 (gen : Int), .int .i64 ((first - 1 + N : Nat) : Int)] 101) = Z := ⟨_, rfl⟩
  have bZ : Below w2.heap.size w2 Z := by rw [← hZ]; exact (Below.refl _ w2).alloc (Nat.le_refl _) _
  have rZ : Z.heap[w2.heap.size]? = some (.cells (jrow v lim i gen (first - 1 + N)) 101 (0, 0)) := by rw [← hZ]; exact heap_alloc_new _ _
  rw [hZ]
  go_ret
  obtain ⟨d2, fo2⟩ := H2.out
  have fo : Fo lo W Z := ((Fo.of_below HH.out.1).trans fo2).trans (Fo.of_below bZ)
  have hlo2 : lo ≤ w2.heap.size := Nat.le_trans HH.out.2.2.1 (Nat.le_trans HH.out.1.size fo2.size)
  have dZ : @Dv (hJ w2.heap.size) lo Z v lv2 _ ms2 _ := Dv.toJ d2 bZ (Nat.le_refl _) (Array.getElem?_eq_some_iff.1 rZ).1
  have hl : (pre ++ [x] ++ rss x i good).length ≤ 1000000 := by
    have := HH.out.2.2.2.1
    unfold rss trs
    split <;> split <;> simp <;> omega
  refine ⟨w2.heap.size, rfl, ?_, fo⟩
  letI := hJ w2.heap.size
  refine ⟨⟨lv2, f, ms2, ?_⟩, rZ, rfl, Nat.le_trans hlo2 bZ.size, hlo2, hl, HH.out.2.2.2.2.1⟩
  rw [rss, ← List.append_assoc, HH.out.2.2.2.2.2.1]
  exact dZ
attribute [local go_sem ↓] toStSt toLdSt in
set_option maxRecDepth 100000 in
set_option maxHeartbeats 1600000 in
theorem Open_story {i0 : Inhabited HoleT} {lo v lim : Nat} {W : World} {lv : Value} {f : Array Value} {ms : List (Array Value)} {pre : List Sp} {x : Sp} {i : Nat} {s : St} (h : @Dv i0 lo W v lv f ms (pre ++ [x])) (hlo : lo ≤ W.heap.size) (hbig : pre.length + 3 < 1000000) (hT : Tc W) (hlim : lim ≤ 67108864) (hlim2 : 64 ≤ lim) (b0 : Byt x.1.1) (b1 : Byt x.2.1) (l0 : x.1.1.length ≤ 67108864) (l1 : x.2.1.length ≤ 67108864) (hr : rep x.1.1 x.2.1 = .story i s) (hi : i ≤ 1) (hf1 : 1 ≤ s.first) (hf2 : s.first + s.batches.length < 9000000000000000000) :
    Calls Tryd.prog 13 #[.pointer (some ⟨v, 0, none⟩), .int .i64 (lim : Int)] W fun e w' => ∃ j, e = .returned (.tuple #[.pointer (some ⟨j, 0, none⟩), .int .i64 0, .int .i64 0, .int .i64 0]) ∧ @Jh (hJ j) lo w' j v lim i s.gen (s.first - 1 + s.batches.length) (pre ++ [x] ++ rss x i s.good) ∧ Fo lo W w' := by
  have hm := @Dv.len i0 _ _ _ _ _ _ _ h
  rw [List.length_append, List.length_singleton] at hm
  have C1 := @Disk_any i0 _ _ _ _ _ _ _ h _ (@Jh.last_at i0 _ _ _ _ _ _ _ _ h) (by omega)
  have q1 : ¬ (lim : Int) < 64 := by omega
  have q2 : ¬ (67108864 : Int) < (lim : Int) := by omega
  have q3 : ¬ (i : Int) < 0 := by omega
  have HH := mkHid (And.intro h (And.intro hlo (And.intro hbig (And.intro hT (And.intro b0 (And.intro b1 (And.intro l0 (And.intro l1 (And.intro hr (And.intro hi (And.intro hf1 hf2)))))))))))
  replace C1 := mkHid C1
  clear h hlo hbig hT b0 b1 l0 l1 hr hm hi hf1 hf2
  go_enter Tryd.func13, Tryd.ntmps13
  go_wp2_with fail
  refine C1.out.mono ?_
  rintro e w1 ⟨cc, rfl, g0, g1, rfl, r0, r1, p0, p1, p2, bD⟩
  clear C1
  have T1 := HH.out.2.2.2.1.below bD HH.out.2.2.2.1.sz
  have C2 := replay_story w1 (bl_row r0 HH.out.2.2.2.2.1 (by have := HH.out.2.2.2.2.2.2.1; unfold maxLen; omega)) (bl_row r1 HH.out.2.2.2.2.2.1 (by have := HH.out.2.2.2.2.2.2.2.1; unfold maxLen; omega)) T1 HH.out.2.2.2.2.2.2.2.2.1
  replace C2 := mkHid C2
  have HB := mkHid bD
  clear r0 r1 p0 p1 p2 bD T1
  unfold dkA
  go_wp2_with fail
  refine C2.out.mono ?_
  rintro e w2 ⟨t4, t5, rfl, h4, h5, b2⟩
  clear C2
  have hone := styA_one (i := i) (good := s.good) (gen := s.gen) (first := s.first) h4 h5
  have s1 := st_Sn w2 (styA i s.good s.gen s.first t4 t5) rfl hone
  obtain ⟨E, hE⟩ : ∃ E, w2.alloc (.cells (styA i s.good s.gen s.first t4 t5) 47) = E := ⟨_, rfl⟩
  have bE : Below w2.heap.size w2 E := by rw [← hE]; exact (Below.refl _ w2).alloc (Nat.le_refl _) _
  have rE : E.heap[w2.heap.size]? = some (.cells (styA i s.good s.gen s.first t4 t5) 47 (0, 0)) := by rw [← hE]; exact heap_alloc_new _ _
  rw [hE] at s1
  have c0 : E.cell? ⟨w2.heap.size, 0, none⟩ = some (.int .i64 (i : Int)) := (cell_of_row _ _ _ _ _ _ rE).trans rfl
  have ldE := ld_Sr E w2.heap.size (styA i s.good s.gen s.first t4 t5) rfl rE
  have b0E : Below W.heap.size W E := HB.out.trans ((b2.trans (bE.mono b2.size)).mono HB.out.size)
  have C3 := resume_any (lim := lim) (@Dv.below i0 _ _ _ _ _ _ _ _ HH.out.1 b0E) (Nat.le_trans HH.out.2.1 b0E.size) HH.out.2.2.1 HH.out.2.2.2.2.2.2.2.2.2.1 (h4.keep (stay_below bE)) (h5.keep (stay_below bE)) HH.out.2.2.2.2.2.2.2.2.2.2.1 HH.out.2.2.2.2.2.2.2.2.2.2.2 (good := s.good) (gen := s.gen)
  have HE := mkHid b0E
  obtain ⟨p4, d4, e4⟩ := h4.sl
  obtain ⟨p5, d5, e5⟩ := h5.sl
  subst e4 e5
  unfold styA at s1 c0 ldE C3
  unfold styA
  clear b0E rE bE b2 h4 h5 hone hE
  go_wp2_with fail
  refine C3.mono ?_
  rintro e w3 ⟨j, rfl, k1, k2⟩
  have HF := mkHid (And.intro k1 ((Fo.of_below HE.out).trans k2))
  clear C3 k1 k2
  go_wp2_with fail
  refine bodyPost_ret (results_tmp4 rfl _ _ _) rfl ?_
  exact ⟨j, rfl, HF.out⟩
end Dev
end Go.Proofs.YtfimaflglnemdaaDoor
