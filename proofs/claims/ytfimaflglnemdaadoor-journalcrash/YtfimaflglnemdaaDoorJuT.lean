/- The journal's rows: the law's does, where there is room: a batch. -/
import Derived.Test.YtfimaflglnemdaaDoorJqF
namespace Go.Proofs.YtfimaflglnemdaaDoor
open Go.RowKit
open JM
set_option maxRecDepth 20000
def apBB (ty : Nat) (vs : Array Value) : Sem Value := Builtin.append_ #[28, 28] ty vs
theorem toApBB (ty : Nat) (vs : Array Value) : Builtin.append_ #[28, 28] ty vs = apBB ty vs := rfl
theorem below_grown {B : Nat} {X w w' : World} {v : Value} (hg : w.grownBy w' v.ownBlock) (hX : Below B X w) (hB : B ≤ X.heap.size) (hv : ∀ k, v.ownBlock = some k → B ≤ k) : Below B X w' :=
  ⟨hg.os.trans hX.os, hg.tape.trans hX.tape, hg.output.trans hX.output, Nat.le_trans hX.size hg.size, fun k hk => (hg.block k (by have := hX.size; omega) (fun e => by have := hv k e.symm; omega)).trans (hX.block k hk)⟩
theorem own_lo {w : World} {B e sz n k : Nat} {v : Value} {xs : List Value} (h : w.ownsRow B e sz v n xs) (hk : v.ownBlock = some k) : B ≤ k := by
  rcases h.2 with ⟨h1, _⟩ | ⟨g, cap, cur, h1, h2, _⟩
  · rw [h1] at hk; cases hk
  · rw [h1] at hk; simp [Value.ownBlock] at hk; omega
/-- A list of lists copied, and one more behind it. -/
theorem Lb.snoc {B : Nat} {w : World} {u x : Value} {bs : List (List (List Nat))} {l : List (List Nat)} (h : Lb B w u bs) (hx : Ll B w x l) (hB : B ≤ w.heap.size) (hk : bs.length < 1000000) :
    ∃ a1 c1 w1 a2 c2 w2, (apBB 28 #[.slice none 0 0, u]).run Tryd.prog w = .ok (.slice a1 bs.length c1) w1 ∧ (apBB 28 #[.slice a1 bs.length c1, .slice (some ⟨w1.heap.size, 0, none⟩) 1 1]).run Tryd.prog (w1.alloc (.cells #[x] 27)) = .ok (.slice a2 (bs.length + 1) c2) w2 ∧ Lb B w2 (.slice a2 (bs.length + 1) c2) (bs ++ [l]) ∧ Below w.heap.size w w2 := by
  obtain ⟨vs, h1, h2⟩ := h
  obtain ⟨i0, hi0, hz0, hz1, hz2⟩ := info_parts infoBss
  have hvl : vs.length = bs.length := by simpa using h1.1
  have hone : ∀ y ∈ vs, y.oneCell' = true := fun y hy => by
    obtain ⟨i, hi, rfl⟩ := List.getElem_of_mem hy
    obtain ⟨y, q1, q2⟩ := h2 i bs[i] (List.getElem?_eq_getElem (by omega))
    rw [List.getElem?_eq_getElem hi] at q1
    injection q1 with q1
    rw [q1]
    obtain ⟨_, _, rfl⟩ := q2.sl
    rfl
  obtain ⟨a1, c1, w1, r1, o1, b1⟩ : ∃ a1 c1 w1, (apBB 28 #[.slice none 0 0, u]).run Tryd.prog w = .ok (.slice a1 bs.length c1) w1 ∧ w1.ownsRow w.heap.size 27 1 (.slice a1 bs.length c1) bs.length vs ∧ Below w.heap.size w w1 := by
    rcases h1.2 with ⟨e1, e2⟩ | ⟨g, cap, cur, e1, e2, e3, e4, e5, e6, e7⟩
    · subst e1
      have hb0 : bs = [] := List.length_eq_zero_iff.1 e2
      subst hb0
      have hv0 : vs = [] := List.length_eq_zero_iff.1 hvl
      subst hv0
      refine ⟨none, 0, w, ?_, World.ownsRow_nil _ _ _ _, Below.refl _ _⟩
      unfold apBB
      simp [Builtin.append_, run_underlying Tryd.underlying28, sizeOf, typeInfo, hi0, Builtin.lenOf, Builtin.firstCells]
    · obtain ⟨v', w', hr, ho, hg, -, -⟩ := run_append_own_at (P := Tryd.prog) w w.heap.size 28 28 27 i0 _ 1 24 Tryd.underlying28 hi0 hz0 hz1 hz2 rfl (by omega) (.slice none 0 0) 0 [] (World.ownsRow_nil _ _ _ _) ⟨g, 0, none⟩ bs.length cap vs (by omega) (fun j y hy => by
        rw [Addr.add_mid, Nat.zero_add, cell_of_row _ _ _ _ _ _ e3]
        have hj := (List.getElem?_eq_some_iff.1 hy).1
        rw [← e7, List.getElem?_take, if_pos (by omega)] at hy
        simpa using hy) hone (by unfold maxLen; omega) (by omega) (Nat.le_refl _)
      rw [Nat.zero_add, List.nil_append] at ho
      obtain ⟨a1, c1, rfl⟩ := own_sl ho
      rw [e1]
      exact ⟨a1, c1, w', hr, ho, below_grown hg (Below.refl _ _) (Nat.le_refl _) (fun k e => by simp [Value.ownBlock] at e)⟩
  have hA : (w1.alloc (.cells #[x] 27)).ownsRow w.heap.size 27 1 (.slice a1 bs.length c1) bs.length vs := own_keep o1 (fun k c _ hc => heap_alloc_old _ _ (h := (Array.getElem?_eq_some_iff.1 hc).1))
  obtain ⟨ox, cx, hxv⟩ := hx.sl
  obtain ⟨v', w2, hr, ho, hg, -, -⟩ := run_append_own_at (P := Tryd.prog) (w1.alloc (.cells #[x] 27)) w.heap.size 28 28 27 i0 _ 1 24 Tryd.underlying28 hi0 hz0 hz1 hz2 rfl (by omega) (.slice a1 bs.length c1) bs.length vs hA ⟨w1.heap.size, 0, none⟩ 1 1 [x] rfl (fun j y hy => by
    match j, hy with
    | 0, hy =>
      injection hy with hy
      subst hy
      exact (cell_of_row _ _ _ _ _ _ (heap_alloc_new _ _)).trans rfl) (fun y hy => by rw [List.mem_singleton.1 hy, hxv]; rfl) (by unfold maxLen; omega) (by omega) (by simp; have := b1.size; omega)
  obtain ⟨a2, c2, rfl⟩ := own_sl ho
  have b2 : Below w.heap.size w w2 := below_grown hg (b1.alloc b1.size _) (Nat.le_refl _) (fun k e => own_lo o1 e)
  refine ⟨a1, c1, w1, a2, c2, w2, r1, hr, ⟨vs ++ [x], own_mono (by rw [List.length_append]; exact ho) hB, fun i l' hl => ?_⟩, b2⟩
  have st : ∀ T, Stay B T w w2 := fun T => stay_below b2
  rcases Nat.lt_or_ge i bs.length with hi | hi
  · rw [List.getElem?_append_left hi] at hl
    obtain ⟨y, h3, h4⟩ := h2 i l' hl
    exact ⟨y, by rw [List.getElem?_append_left (by omega)]; exact h3, h4.keep (st _)⟩
  · rw [List.getElem?_append_right hi] at hl
    have hi0 : i = bs.length := by
      by_cases e : i - bs.length = 0
      · omega
      · rw [List.getElem?_eq_none (by simp; omega)] at hl; cases hl
    subst hi0
    simp only [Nat.sub_self, List.getElem?_cons_zero, Option.some.injEq] at hl
    subst hl
    exact ⟨x, by rw [List.getElem?_append_right (by omega), hvl]; simp, hx.keep (st _)⟩
namespace Dev
section
variable [Inhabited HoleT] {lo j v lim live gen first n : Nat} {W : World} {base : List (List Nat)} {bs : List (List (List Nat))}
attribute [local go_sem ↓] toStBk toLdBk toApBB in
set_option maxRecDepth 100000 in
set_option maxHeartbeats 3200000 in
theorem does_commit {B : Nat} {u0 u1 uL : Value} {ls : List (List Nat)} {last : Nat} (h : Js lo W j v lim live gen first n base bs) (hl : last = first - 1 + bs.length) (hb0 : Ll B W u0 base) (hb1 : Lb B W u1 bs) (hB : B ≤ W.heap.size) (hL : Lr W uL ls) (hLl : ∀ x ∈ ls, x.length ≤ Go.Proofs.YtfimaflglnemdaaDoor.LIM) (hroom : (journalw gen first base bs).length + (26 + 40440) ≤ lim) (hn : n + 2 ≤ 1000) (hf : first + bs.length + 1 ≤ 1000) :
    Calls Tryd.prog 37 #[.pointer (some ⟨j, 0, none⟩), .agg (bkA u0 u1 last), .agg #[.bool false, uL], .int .i64 (lim : Int)] W fun e w' => ∃ l1, e = .returned (.tuple #[.agg (bkA u0 l1 (last + 1)), .bool true]) ∧ Ll B w' u0 base ∧ Lb B w' l1 (bs ++ [sho ls]) ∧ Js lo w' j v lim live gen first (n + 2) base (bs ++ [sho ls]) ∧ Fo lo W w' := by
  obtain ⟨oL, cL, rfl⟩ := hL.sl
  obtain ⟨p0, q0, hu0⟩ := hb0.sl
  obtain ⟨p1, q1, hu1⟩ := hb1.sl
  subst hu0 hu1
  obtain ⟨V, hV⟩ : ∃ V, ((W.alloc (.cells #[.slice p0 base.length q0, .slice p1 bs.length q1, .int .i64 (last : Int)] 30)).alloc (.cells #[.bool false, .slice oL ls.length cL] 32)).alloc (.cells #[.slice none 0 0, .slice none 0 0, .int .i64 0] 30) = V := ⟨_, rfl⟩
  obtain ⟨r0, r1, r2, bV⟩ := row3 W (.cells #[.slice p0 base.length q0, .slice p1 bs.length q1, .int .i64 (last : Int)] 30) (.cells #[.bool false, .slice oL ls.length cL] 32) (.cells #[.slice none 0 0, .slice none 0 0, .int .i64 0] 30)
  rw [hV] at r0 r1 r2 bV
  have c1 : V.cell? ⟨W.heap.size + 1, 1, none⟩ = some (.slice oL ls.length cL) := (cell_of_row _ _ _ _ _ _ r1).trans rfl
  have C1 := short_any V (hL.below bV) hLl
  have gl := sho_gl hL.byt
  have HH := mkHid (And.intro (h.below bV) (And.intro r0 (And.intro r1 (And.intro r2 (And.intro bV gl)))))
  have HBK := mkHid (And.intro (hb0.keep (stay_below bV)) (And.intro (hb1.keep (stay_below bV)) (And.intro hB hl)))
  have hlim := h.lim1
  have h_lo := mkHid h.hlo
  have hlast : last < 1000000 := by have := h.f2; omega
  clear r0 r1 r2 bV h hL hLl gl hb0 hb1 hB hl
  unfold bkA
  go_enter Tryd.func37, Tryd.ntmps37
  go_upto_region 1 with fail
  try rw [hV]
  clear hV
  go_wp2_with fail
  refine C1.mono ?_
  rintro e w1 ⟨l0, rfl, k1, b1⟩
  clear C1
  have h1 := HH.out.1.below b1
  have C2 := h1.room
  obtain ⟨rm, hrm⟩ : ∃ rm, lim - (journalw gen first base bs).length = rm := ⟨_, rfl⟩
  rw [hrm] at C2
  have r1b := (b1.block _ (Array.getElem?_eq_some_iff.1 HH.out.2.2.1).1).trans HH.out.2.2.1
  have c2 : w1.cell? ⟨W.heap.size + 1, 0, none⟩ = some (.bool false) := (cell_of_row _ _ _ _ _ _ r1b).trans rfl
  obtain ⟨o0, c0, hl0⟩ := k1.sl
  subst hl0
  have HK := mkHid (And.intro k1 (And.intro b1 h1))
  have hrm2 : 26 + 40440 ≤ rm := by omega
  replace hrm := mkHid hrm
  clear k1 b1 h1 r1b c1
  go_wp2_with fail
  refine C2.mono ?_
  rintro e w2 ⟨rfl, b2⟩
  clear C2
  have c2b := cell_below b2 c2
  have k2 := HK.out.1.keep (stay_below b2)
  have C3 := lists_any w2 k2.lr (fun x hx => by obtain ⟨y, -, rfl⟩ := sho_mem hx; rw [List.length_take]; unfold Go.Proofs.YtfimaflglnemdaaDoor.LIM; omega) (by have := sho_len ls; omega)
  have HK2 := mkHid (And.intro k2 b2)
  clear k2 b2 c2
  go_wp2_with fail
  refine C3.mono ?_
  rintro e w3 ⟨l3, rfl, k3, b3⟩
  clear C3
  have j3 := (HK.out.2.2.below HK2.out.2).below b3
  have hsz := sho_size ls
  have C4 := j3.commit k3 HH.out.2.2.2.2.2 (by omega) (by omega) hn hf
  have HK3 := mkHid b3
  obtain ⟨o3, c3, hl3⟩ := k3.sl
  subst hl3
  rw [show first - 1 + (bs ++ [sho ls]).length = last + 1 by rw [HBK.out.2.2.2]; simp; omega, Int.natCast_succ] at C4
  clear k3 b3 j3 c2b
  go_wp2_with fail
  refine C4.mono ?_
  rintro e w4 ⟨rfl, j4, fo4⟩
  clear C4
  have k4 := (HK2.out.1.keep (stay_below HK3.out)).keep (fo4.stay ll_ty)
  have C5 := law_size false w4 k4.lr (by omega)
  rw [if_neg (by decide)] at C5
  obtain ⟨z, hz⟩ : ∃ z, 26 + sizes (sho ls) = z := ⟨_, rfl⟩
  rw [hz] at C5
  have hzl : ¬ (rm : Int) < (z : Int) := by omega
  have bV4 : Below V.heap.size V w3 := HK.out.2.1.trans ((HK2.out.2.trans (HK3.out.mono HK2.out.2.size)).mono HK.out.2.1.size)
  have foV : Fo lo V w4 := (Fo.of_below bV4).trans fo4
  have r0 := foV.row HH.out.2.1 (by decide) (by decide) (by decide)
  have r2 := foV.row HH.out.2.2.2.1 (by decide) (by decide) (by decide)
  have foW : Fo lo W w4 := (Fo.of_below HH.out.2.2.2.2.1).trans foV
  have kb0 := HBK.out.1.keep (foV.stay ll_ty)
  have kb1 := HBK.out.2.1.keep (foV.stay lb_ty)
  have a1 : w4.cell? ⟨W.heap.size, 1, none⟩ = some (.slice p1 bs.length q1) := (cell_of_row _ _ _ _ _ _ r0).trans rfl
  obtain ⟨g1, d1, x1, g2, d2, x2, A1, A2, A3, A4⟩ := kb1.snoc (k4.mono (Nat.le_trans HBK.out.2.2.1 HH.out.2.2.2.2.1.size)) (Nat.le_trans HBK.out.2.2.1 (by have := foW.size; omega)) (by omega)
  have HK4 := mkHid (And.intro (k4.keep (stay_below A4)) (And.intro (j4.below A4) (And.intro (foW.trans (Fo.of_below A4)) (And.intro ((A4.block _ (Array.getElem?_eq_some_iff.1 r0).1).trans r0) (And.intro ((A4.block _ (Array.getElem?_eq_some_iff.1 r2).1).trans r2) (And.intro hz (And.intro (kb0.keep (stay_below A4)) A3)))))))
  clear k4 j4 foW r0 r2 hz foV bV4 fo4 A4 A3 kb0 kb1
  go_wp2_with fail
  refine C5.mono ?_
  rintro e w5 ⟨rfl, hw5⟩
  subst hw5
  go_upto_region 14 with fail
  have j5 := HK4.out.2.1.below (below_drew x2)
  have C6 := j5.room
  have hz2 : lim - (journalw gen first base (bs ++ [sho ls])).length = rm - z := by
    rw [← hrm.out, ← HK4.out.2.2.2.2.2.1, journalw, batchesw_snoc, ← List.append_assoc, List.length_append, batchw_len]
    unfold journalw
    omega
  rw [hz2] at C6
  have b0 : x2.drew.cell? ⟨W.heap.size, 0, none⟩ = some (.slice p0 base.length q0) := (cell_of_row _ _ _ _ _ _ HK4.out.2.2.2.1).trans rfl
  have b2 : x2.drew.cell? ⟨W.heap.size, 2, none⟩ = some (.int .i64 (last : Int)) := (cell_of_row _ _ _ _ _ _ HK4.out.2.2.2.1).trans rfl
  obtain ⟨r, hr⟩ : ∃ r, rm - z = r := ⟨_, rfl⟩
  rw [hr] at C6
  have CR : Hid (Calls Tryd.prog 21 #[.pointer (some ⟨j, 0, none⟩)] x2.drew fun e w' => e = .returned (.int .i64 (r : Int)) ∧ Hid (Below x2.heap.size x2 w') ∧ (w'.cell? ⟨W.heap.size, 0, none⟩ = some (.slice p0 base.length q0) ∧ w'.cell? ⟨W.heap.size, 2, none⟩ = some (.int .i64 (last : Int)))) := C6.mono (fun e w' ⟨e1, e2⟩ => ⟨e1, (below_drew x2).trans e2, cell_below e2 b0, cell_below e2 b2⟩)
  have CS : Hid (∀ w', Hid (Below x2.heap.size x2 w') → Calls Tryd.prog 62 #[.slice o0 (sho ls).length c0, .bool false] w' fun e w2 => e = .returned (.int .i64 (z : Int)) ∧ w2 = w') := fun w' hb => by
    have := law_size false w' (HK4.out.1.lr.below hb.out) (by omega)
    rw [if_neg (by decide), HK4.out.2.2.2.2.2.1] at this
    exact this
  have wl : IntKind.i64.wrap ((last : Int) + 1) = (last : Int) + 1 := by rw [IntKind.wrap_i64]; omega
  have hql : Hid ((last : Int) + 1 = ((last + 1 : Nat) : Int)) := by show (last : Int) + 1 = _; omega
  have HD : Hid (∀ w', Hid (Below x2.heap.size x2 w') → (stBk (.pointer (some ⟨W.heap.size + 1 + 1, 0, none⟩)) (.agg #[.slice p0 base.length q0, .slice g2 (bs.length + 1) d2, .int .i64 (IntKind.i64.wrap ((last : Int) + 1))])).run Tryd.prog w' = .ok () (w'.setRow (W.heap.size + 2) #[.slice p0 base.length q0, .slice g2 (bs.length + 1) d2, .int .i64 (IntKind.i64.wrap ((last : Int) + 1))]) ∧ ((w'.setRow (W.heap.size + 2) #[.slice p0 base.length q0, .slice g2 (bs.length + 1) d2, .int .i64 (IntKind.i64.wrap ((last : Int) + 1))]).cell? ⟨W.heap.size, 0, none⟩ = some (.slice p0 base.length q0) ∧ (w'.setRow (W.heap.size + 2) #[.slice p0 base.length q0, .slice g2 (bs.length + 1) d2, .int .i64 (IntKind.i64.wrap ((last : Int) + 1))]).cell? ⟨W.heap.size, 2, none⟩ = some (.int .i64 (last : Int))) ∧ Hid ((w'.setRow (W.heap.size + 2) #[.slice p0 base.length q0, .slice g2 (bs.length + 1) d2, .int .i64 (IntKind.i64.wrap ((last : Int) + 1))]).heap[W.heap.size + 2]? = some (.cells #[.slice p0 base.length q0, .slice g2 (bs.length + 1) d2, .int .i64 (IntKind.i64.wrap ((last : Int) + 1))] 30 (0, 0)) ∧ Ll B (w'.setRow (W.heap.size + 2) #[.slice p0 base.length q0, .slice g2 (bs.length + 1) d2, .int .i64 (IntKind.i64.wrap ((last : Int) + 1))]) (.slice p0 base.length q0) base ∧ Lb B (w'.setRow (W.heap.size + 2) #[.slice p0 base.length q0, .slice g2 (bs.length + 1) d2, .int .i64 (IntKind.i64.wrap ((last : Int) + 1))]) (.slice g2 (bs.length + 1) d2) (bs ++ [sho ls]) ∧ Js lo (w'.setRow (W.heap.size + 2) #[.slice p0 base.length q0, .slice g2 (bs.length + 1) d2, .int .i64 (IntKind.i64.wrap ((last : Int) + 1))]) j v lim live gen first (n + 2) base (bs ++ [sho ls]) ∧ Fo lo W (w'.setRow (W.heap.size + 2) #[.slice p0 base.length q0, .slice g2 (bs.length + 1) d2, .int .i64 (IntKind.i64.wrap ((last : Int) + 1))]))) := by
    intro w' hb
    have hr2 := (hb.out.block _ (Array.getElem?_eq_some_iff.1 HK4.out.2.2.2.2.1).1).trans HK4.out.2.2.2.2.1
    have hr0 := (hb.out.block _ (Array.getElem?_eq_some_iff.1 HK4.out.2.2.2.1).1).trans HK4.out.2.2.2.1
    have ht := (HK4.out.2.1.below hb.out).tc
    have hr0b := (setRow_other w' (W.heap.size + 2) W.heap.size #[.slice p0 base.length q0, .slice g2 (bs.length + 1) d2, .int .i64 (IntKind.i64.wrap ((last : Int) + 1))] (by omega)).trans hr0
    refine ⟨st_Bk w' (W.heap.size + 2) _ _ rfl rfl (by simp [Value.oneCell']) hr2, ⟨?_, ?_⟩, setRow_heap _ _ _ _ _ _ hr2, ?_, ?_, ?_, ?_⟩
    · exact (cell_of_row _ _ _ _ _ _ hr0b).trans rfl
    · exact (cell_of_row _ _ _ _ _ _ hr0b).trans rfl
    · refine (HK4.out.2.2.2.2.2.2.1.keep (stay_below hb.out)).keep (fun k c t _ ht hc => setRow_other _ _ _ _ (row_ne hc hr2 ?_))
      rcases ht with rfl | rfl <;> decide
    · refine (HK4.out.2.2.2.2.2.2.2.keep (stay_below hb.out)).keep (fun k c t _ ht hc => setRow_other _ _ _ _ (row_ne hc hr2 ?_))
      rcases ht with rfl | rfl | rfl <;> decide
    · refine (HK4.out.2.1.below hb.out).free (Fre.setRow hr2 (by decide) (by intro m hm; simp at hm) _) (ht.keep (by rw [size_setRow]; exact Nat.le_refl _) (setRow_other _ _ _ _ ?_))
      have := HK4.out.2.1.c0
      have := h_lo.out
      omega
    · exact (HK4.out.2.2.1.trans (Fo.of_below hb.out)).setRow (by omega) _
  have hq : Hid (((r : Int) == IntKind.i64.wrap ((rm : Int) - (z : Int))) = true) := by
    show ((r : Int) == IntKind.i64.wrap ((rm : Int) - (z : Int))) = true
    rw [beq_iff_eq, IntKind.wrap_i64]
    have := HK.out.2.2.fit
    omega
  have hq2 : ((last : Int) + 1 == IntKind.i64.wrap ((last : Int) + 1)) = true := by rw [wl]; simp
  replace hr := mkHid hr
  replace wl := mkHid wl
  clear C5 C6 j5 hz2 hzl hrm2 hsz hlim hroom hn hf hlast A1 A2 a1
  go_region_held3 (fun w' => w'.cell? ⟨W.heap.size, 0, none⟩ = some (.slice p0 base.length q0) ∧ w'.cell? ⟨W.heap.size, 2, none⟩ = some (.int .i64 (last : Int))) (first | assumption | exact ⟨b0, b2⟩)
    (first
      | (go_at_call 21; with_reducible refine Calls.mono CR.out ?_; rintro e w6 ⟨rfl, k6, s6⟩; obtain ⟨st1, st2, st3⟩ := HD.out w6 k6)
      | (go_at_call 62; with_reducible refine Calls.mono (CS.out _ k6) ?_; rintro e w7 ⟨rfl, rfl⟩))
  rw [hq.out]
  go_wp2_with fail
  refine bodyPost_ret (results_Bk rfl _ _ (W.heap.size + 2) _ rfl rfl st3.out.1) rfl ?_
  refine ⟨.slice g2 (bs.length + 1) d2, ?_, st3.out.2⟩
  rw [wl.out, hql.out]
  rfl
end
end Dev
end Go.Proofs.YtfimaflglnemdaaDoor
