/- Several texts in one: JuW, JuY, JuZ. -/
import Derived.Test.YtfimaflglnemdaaDoorJqG
import Derived.ArgAppend
/- The journal's rows: the law's lived. -/
namespace Go.Proofs.YtfimaflglnemdaaDoor
open Go.RowKit
open JM
set_option maxRecDepth 20000
namespace Dev
/-- A life, behind i steps. -/
def Lv (W : World) (lo j v i : Nat) (cv bv us : Value) (ss : List (Bool × List (List Nat))) (wr : World) : Prop :=
  ∃ live gen first n base bs u0 u1 xs rs, @Ply (hJ j) lo wr j v 4194367 W.heap.size i live gen first n base bs u0 u1 ∧ Lw W lo (i + 1) (i + 1) cv bv xs rs (bkA u0 u1 (first - 1 + bs.length)) (lifA us) wr ∧ rs.drop (i * 3) = [u0, u1, .int .i64 ((first - 1 + bs.length : Nat) : Int)] ∧ ∀ ls, 0 < i → ss[i - 1]? = some (false, ls) → bs ≠ []
attribute [local go_sem ↓] toStBk toApI toApK in
set_option maxRecDepth 100000 in
set_option maxHeartbeats 3200000 in
theorem lived_any {us : Value} {ss : List (Bool × List (List Nat))} (W : World) (hS : Ss W us ss) (hss : ss.length ≤ 26) (hT : Tc W) :
    Calls Tryd.prog 8 #[.agg #[.slice none 0 0, .slice none 0 0], .agg #[.slice none 0 0, .slice none 0 0, .int .i64 0], .agg (lifA us)] W fun e w' => ∃ lo j v cv bv, e = .returned (.tuple #[.pointer (some ⟨v, 0, none⟩), cv, bv, .bool true]) ∧ Lv W lo j v ss.length cv bv us ss w' := by
  obtain ⟨V, hV⟩ : ∃ V, ((W.alloc (.cells #[.slice none 0 0, .slice none 0 0] 26)).alloc (.cells #[.slice none 0 0, .slice none 0 0, .int .i64 0] 30)).alloc (.cells (lifA us) 36) = V := ⟨_, rfl⟩
  obtain ⟨r0, r1, r2, bV⟩ := row3 W (.cells #[.slice none 0 0, .slice none 0 0] 26) (.cells #[.slice none 0 0, .slice none 0 0, .int .i64 0] 30) (.cells (lifA us) 36)
  have zV : V.heap.size = W.heap.size + 3 := by rw [← hV]; simp
  rw [hV] at r0 r1 r2 bV
  obtain ⟨ou, cu, rfl⟩ := hS.sl
  have c0 : V.cell? ⟨W.heap.size, 0, none⟩ = some (.slice none 0 0) := (cell_of_row _ _ _ _ _ _ r0).trans rfl
  have c1 : V.cell? ⟨W.heap.size, 1, none⟩ = some (.slice none 0 0) := (cell_of_row _ _ _ _ _ _ r0).trans rfl
  have d0 : V.cell? ⟨W.heap.size + 1 + 1, 0, none⟩ = some (.int .i64 4194303) := (cell_of_row _ _ _ _ _ _ r2).trans rfl
  have hbit : bits BinOp.and IntKind.i64 4194303 4194303 = 4194303 := by kernel_rfl
  have C1 := diskOf_any V (bl_none V) (bl_none V) (Nat.zero_le _) (Nat.zero_le _)
  have HH := mkHid (And.intro r1 (And.intro r2 (And.intro bV (And.intro hS (And.intro hT zV)))))
  unfold lifA at hV
  unfold lifA
  clear r0 r1 r2 bV hS hT zV
  go_enter Tryd.func8, Tryd.ntmps8
  go_upto_region 1 with fail
  try rw [hV]
  clear hV
  go_wp2_with fail
  refine C1.mono ?_
  rintro e w1 ⟨o2, o3, c2, c3, rfl, k2, k3, b1⟩
  clear C1
  have C2 := new_any w1 _ _ _ _ k2 k3 (Nat.zero_le _) (Nat.zero_le _)
  simp only [List.length_nil] at C2
  have HK := mkHid b1
  clear k2 k3 b1
  simp only [List.length_nil]
  go_wp2_with fail
  refine C2.mono ?_
  rintro e w2 ⟨rfl, k4⟩
  clear C2
  obtain ⟨f, hD⟩ := @dv_of h0 _ _ _ k4 (Nat.zero_le _)
  have b2 : Below w1.heap.size w1 w2 := k4.1
  have bVW := HH.out.2.2.1
  have b12 : Below V.heap.size V w2 := HK.out.trans (b2.mono HK.out.size)
  have b02 : Below W.heap.size W w2 := bVW.trans (b12.mono bVW.size)
  have hT := HH.out.2.2.2.2.1
  have hlo : 0 < w1.heap.size := Nat.lt_of_lt_of_le hT.sz (Nat.le_trans bVW.size HK.out.size)
  have C3 := Open_new (lim := 4194367) hD rfl b2.size (by decide) (hT.below b02 hT.sz) hlo (by decide) (by decide)
  rw [show ((4194367 : Nat) : Int) = 4194367 from rfl] at C3
  have HK2 := mkHid (And.intro b12 (And.intro b02 hlo))
  obtain ⟨lo, hloE⟩ : ∃ lo, w1.heap.size = lo := ⟨_, rfl⟩
  obtain ⟨v, hvE⟩ : ∃ v, lo + 1 = v := ⟨_, rfl⟩
  rw [hloE, hvE] at C3
  rw [hloE] at HK2
  have HLO := mkHid (And.intro hloE hvE)
  rw [hloE, hvE]
  clear hD k4 b2 bVW b12 b02 hT hlo hloE hvE
  go_wp2_with fail
  refine C3.mono ?_
  rintro e w3 ⟨j, rfl, k5, fo3⟩
  clear C3
  letI := hJ j
  have foV : Fo lo V w3 := (Fo.of_below HK2.out.1).trans fo3
  have bel3 : Below W.heap.size W w3 := by
    have q := HK2.out.2.1
    have ql : W.heap.size ≤ lo := by rw [← HLO.out.1]; exact Nat.le_trans HH.out.2.2.1.size HK.out.size
    exact ⟨fo3.os.trans q.os, fo3.tape.trans q.tape, fo3.output.trans q.output, Nat.le_trans q.size fo3.size, fun k hk => (fo3.low k (by omega) (by have := q.size; omega)).trans (q.block k hk)⟩
  have hT3 : Tc w3 := HH.out.2.2.2.2.1.below bel3 HH.out.2.2.2.2.1.sz
  have hj : Js lo w3 j v 4194367 0 1 1 2 [] [] := by
    refine ⟨⟨_, k5, ?_, rfl⟩, ⟨by decide, fun x h => (by cases h)⟩, fun b h => (by cases h), by decide, by decide, by decide, by decide, ?_, by decide, by decide, hT3, HK2.out.2.2, by decide⟩
    · show basew 1 1 [] = journalw 1 1 [] []
      unfold journalw
      rw [batchesw, List.append_nil]
    · rw [journalw_len]
      decide
  have r1 := foV.row HH.out.1 (by decide) (by decide) (by decide)
  have r2 := foV.row HH.out.2.1 (by decide) (by decide) (by decide)
  have e2 : w3.drew.cell? ⟨W.heap.size + 1, 2, none⟩ = some (.int .i64 0) := (cell_of_row _ _ _ _ _ _ r1).trans rfl
  have CL : Hid (Calls Tryd.prog 17 #[.pointer (some ⟨j, 0, none⟩)] w3.drew fun e w' => e = .returned (.int .i64 0) ∧ w' = w3.drew) := (hj.below (below_drew w3)).last
  have hP : Ply lo w3 j v 4194367 W.heap.size 0 0 1 1 2 [] [] (.slice none 0 0) (.slice none 0 0) := ⟨hj, Ll.nil _ _, Lb.nil _ _, by decide, by decide, by decide, by rw [journalw_len]; decide, fun b h => (by cases h)⟩
  have HP := mkHid (And.intro hP (And.intro r1 (And.intro r2 bel3)))
  clear hP hj r1 r2 bel3 hT3 foV k5 fo3
  go_upto_region 4 with fail
  go_region_held3 (fun w' => w'.cell? ⟨W.heap.size + 1, 2, none⟩ = some (.int .i64 0)) (first | assumption | exact e2)
    (first
      | (go_at_call 17; with_reducible refine Calls.mono CL.out ?_; rintro e w4 ⟨rfl, hw4⟩; subst hw4))
  clear CL
  have bd := below_drew w3
  have P4 := HP.out.1.below bd
  have C4 := P4.js.count
  have r1 := (bd.block _ (Array.getElem?_eq_some_iff.1 HP.out.2.1).1).trans HP.out.2.1
  have bW4 := HP.out.2.2.2.trans (bd.mono HP.out.2.2.2.size)
  have r2 := (bd.block _ (Array.getElem?_eq_some_iff.1 HP.out.2.2.1).1).trans HP.out.2.2.1
  obtain ⟨w4, hw4⟩ : ∃ w4, w3.drew = w4 := ⟨_, rfl⟩
  rw [hw4] at C4 r1 r2 P4 bd bW4
  rw [hw4]
  clear hw4 e2
  obtain ⟨A1, hA1⟩ : ∃ A, w4.alloc (.cells #[.int .i64 2] 3) = A := ⟨_, rfl⟩
  have bA1 : Below w4.heap.size w4 A1 := by rw [← hA1]; exact (Below.refl _ w4).alloc (Nat.le_refl _) _
  have rA1 : A1.heap[w4.heap.size]? = some (.cells #[.int .i64 2] 3 (0, 0)) := by rw [← hA1]; exact heap_alloc_new _ _
  obtain ⟨A2, hA2⟩ : ∃ A, A1.alloc (.cells #[.slice none 0 0, .slice none 0 0, .int .i64 0] 30) = A := ⟨_, rfl⟩
  have bA2 : Below A1.heap.size A1 A2 := by rw [← hA2]; exact (Below.refl _ A1).alloc (Nat.le_refl _) _
  have rA2 : A2.heap[A1.heap.size]? = some (.cells #[.slice none 0 0, .slice none 0 0, .int .i64 0] 30 (0, 0)) := by rw [← hA2]; exact heap_alloc_new _ _
  have rr1 := (bA1.block _ (Array.getElem?_eq_some_iff.1 r1).1).trans r1
  have f0 : A1.cell? ⟨W.heap.size + 1, 0, none⟩ = some (.slice none 0 0) := (cell_of_row _ _ _ _ _ _ rr1).trans rfl
  have f1 : A1.cell? ⟨W.heap.size + 1, 1, none⟩ = some (.slice none 0 0) := (cell_of_row _ _ _ _ _ _ rr1).trans rfl
  have f2 : A1.cell? ⟨W.heap.size + 1, 2, none⟩ = some (.int .i64 0) := (cell_of_row _ _ _ _ _ _ rr1).trans rfl
  have b42 : Below w4.heap.size w4 A2 := bA1.trans (bA2.mono bA1.size)
  have hl3 : W.heap.size + 3 ≤ lo := by rw [← HLO.out.1, ← HH.out.2.2.2.2.2]; exact HK.out.size
  have hl4 : lo ≤ w4.heap.size := P4.js.hlo
  have LV : Hid (Lv W lo j v 0 (.slice (some ⟨w4.heap.size, 0, none⟩) 1 1) (.slice (some ⟨A1.heap.size, 0, none⟩) 1 1) (.slice ou ss.length cu) ss A2) := by
    refine ⟨0, 1, 1, 2, [], [], .slice none 0 0, .slice none 0 0, [.int .i64 2], [.slice none 0 0, .slice none 0 0, .int .i64 0], P4.below b42, ⟨(b42.block _ (Array.getElem?_eq_some_iff.1 r1).1).trans r1, (b42.block _ (Array.getElem?_eq_some_iff.1 r2).1).trans r2, bW4.trans (b42.mono bW4.size), ?_, ?_, ⟨_, rfl, nu_int _⟩, ⟨_, rfl, nu_slice _ _ _⟩, ⟨_, rfl, nu_slice _ _ _⟩, hl3, Nat.le_trans hl4 b42.size⟩, rfl, fun ls h => absurd h (by omega)⟩
    · exact ⟨rfl, .inr ⟨w4.heap.size, 1, _, rfl, by omega, (bA2.block _ (Array.getElem?_eq_some_iff.1 rA1).1).trans rA1, Nat.le_refl _, by unfold maxLen; omega, rfl, rfl⟩⟩
    · exact ⟨rfl, .inr ⟨A1.heap.size, 1, _, rfl, by have := bA1.size; omega, rA2, Nat.le_refl _, by unfold maxLen; omega, rfl, rfl⟩⟩
  clear bA1 rA1 bA2 rA2 rr1 b42 r1 r2 bW4 P4 bd hl4 HK2
  replace hl3 := mkHid hl3
  go_wp2_with fail
  refine C4.mono ?_
  rintro e w5 ⟨rfl, hw5⟩
  subst hw5
  clear C4
  go_wp2_with fail
  try rw [hA2]
  go_loopw [18, 16, 17] (fun iv cv bv wr => ∃ (i : Nat) (a1 a2 : Option Addr) (n1 n2 : Nat), iv = .int .i64 (i : Int) ∧ cv = .slice a1 (i + 1) n1 ∧ bv = .slice a2 (i + 1) n2 ∧ i ≤ ss.length ∧ Hid (Lv W lo j v i cv bv (.slice ou ss.length cu) ss wr)) (fun iv _ _ _ => ss.length - (intOf iv).toNat)
  case atStart => exact ⟨0, _, _, _, _, rfl, rfl, rfl, Nat.zero_le _, LV⟩
  case round =>
    obtain ⟨i, a1, a2, n1, n2, rfl, rfl, rfl, hi, HI⟩ := hrel
    obtain ⟨live, gen, first, n, base, bs, u0, u1, xs, rs, hP, hW, hrs, -⟩ := HI.out
    obtain ⟨p0, q0, hu0⟩ := hP.b0.sl
    obtain ⟨p1, q1, hu1⟩ := hP.b1.sl
    subst hu0 hu1
    obtain ⟨last, hlast⟩ : ∃ last, first - 1 + bs.length = last := ⟨_, rfl⟩
    rw [hlast] at hW hrs
    unfold bkA at hW
    have cL : wr.cell? ⟨W.heap.size + 1 + 1, 1, none⟩ = some (.slice ou ss.length cu) := (cell_of_row _ _ _ _ _ _ hW.rl).trans rfl
    by_cases hlt : i < ss.length
    · have hlt2 : (i : Int) < (ss.length : Int) := by omega
      have hi30 : (i : Int) < 30 := by omega
      have hi0 : (0 : Int) ≤ (i : Int) := by omega
      obtain ⟨oa, cap, e0, -, -, h4⟩ := HH.out.2.2.2.1
      injection e0 with e0 el ec
      clear el
      subst e0 ec
      obtain ⟨g, o, x, rfl, y1, y2, y3, y4⟩ := h4 i hlt
      obtain ⟨ox, cx, rfl⟩ := y3.sl
      obtain ⟨c, hc⟩ : ∃ c, ss[i].1 = c := ⟨_, rfl⟩
      rw [hc] at y1
      have hcc : ∀ ls, ss[i + 1 - 1]? = some (false, ls) → c = false := fun ls h => by
        rw [Nat.add_sub_cancel, List.getElem?_eq_getElem hlt] at h
        injection h with h
        rw [← hc, h]
      replace hcc := mkHid hcc
      have CA := mkHid (fun X hX => does_step (X := X) hP hW hlast.symm hX (by omega) y1 y2 y3 y4)
      have bz : Below wr.heap.size wr (wr.alloc (.cells #[.slice none 0 0, .slice none 0 0, .int .i64 0] 30)).drew := by
        have q := (Below.refl _ wr).alloc (Nat.le_refl _) (.cells #[.slice none 0 0, .slice none 0 0, .int .i64 0] 30)
        exact q.trans ((below_drew _).mono q.size)
      have hSd := S11.of (hW.below (below_drew wr)) y1 y2
      have hSa := S11.of (hW.below bz) y1 y2
      have HY := mkHid (And.intro hW (And.intro y1 (And.intro y2 (And.intro HH.out.2.2.2.2.1 hrs))))
      have Cb := mkHid (CA.out _ (below_drew wr))
      have Ca := mkHid (CA.out _ bz)
      have kz := mkHid (show (wr.alloc (.cells #[.slice none 0 0, .slice none 0 0, .int .i64 0] 30)).drew.heap[wr.heap.size]? = some (.cells zBk 30 (0, 0)) from heap_alloc_new _ _)
      clear hP hW y1 y2 y3 y4 h4 hrs CA hc bz hlast
      obtain ⟨nx, hnx⟩ : ∃ nx, ss[i].2.length = nx := ⟨_, rfl⟩
      rw [hnx] at Cb Ca hSd hSa HY
      clear hnx
      go_upto_region 11 with fail
      go_region_held3 (fun w' => S11 W (.slice p0 base.length q0) (.slice p1 bs.length q1) (.int .i64 (last : Int)) (.slice (some ⟨g, o, none⟩) ss.length cu) g (o + i * 2) c (.slice ox nx cx) w') (first | assumption | exact hSd | exact hSa | exact hSx | exact hSy)
        (first
          | (go_at_call 37; with_reducible refine Calls.mono Ca.out ?_; rintro e w6 ⟨live', gen', first', n', base', bs', v0, v1, last', rfl, k6, s6⟩; obtain ⟨st1, hN⟩ := nxtA HY.out.2.2.2.1 HY.out.1 kz.out (Nat.le_refl _) k6.out; have hSx := S11.of hN.lw HY.out.2.1 HY.out.2.2.1; replace hN := mkHid hN)
          | (go_at_call 37; with_reducible refine Calls.mono Cb.out ?_; rintro e w6 ⟨live', gen', first', n', base', bs', v0, v1, last', rfl, k6, s6⟩; obtain ⟨st1, hN, hLa⟩ := nxtB k6.out; have hSx := S11.of hN.lw HY.out.2.1 HY.out.2.2.1; have hSy := S11.of hLa HY.out.2.1 HY.out.2.2.1; replace hN := mkHid hN; clear hLa))
      · obtain ⟨k, hk⟩ : ∃ k, w6.heap.size = k := ⟨_, rfl⟩
        obtain ⟨Y, hY⟩ : ∃ Y, w6.alloc (.cells #[v0, v1, .int .i64 (last' : Int)] 30) = Y := ⟨_, rfl⟩
        rw [hk, hY] at hN
        rw [hk, hY]
        clear st1 hSx hSy k6 s6 hk hY
        obtain ⟨r0, s0, ev0⟩ := hN.out.ply.b0.sl
        obtain ⟨r1, s1, ev1⟩ := hN.out.ply.b1.sl
        subst ev0 ev1
        have bD := below_drew Y
        have P2 := hN.out.ply.below bD
        have rk := (bD.block _ (Array.getElem?_eq_some_iff.1 hN.out.row).1).trans hN.out.row
        have g0 : Y.drew.cell? ⟨k, 0, none⟩ = some (.slice r0 base'.length s0) := (cell_of_row _ _ _ _ _ _ rk).trans rfl
        have g1 : Y.drew.cell? ⟨k, 1, none⟩ = some (.slice r1 bs'.length s1) := (cell_of_row _ _ _ _ _ _ rk).trans rfl
        have g2 : Y.drew.cell? ⟨k, 2, none⟩ = some (.int .i64 (last' : Int)) := (cell_of_row _ _ _ _ _ _ rk).trans rfl
        have CL := P2.js.last
        have CS := mkHid P2.js.story
        rw [← hN.out.hl] at CL
        replace CL := mkHid CL
        have Hq : ∀ w7 t4 t5, (Ll Y.drew.heap.size w7 t4 base' ∧ Lb Y.drew.heap.size w7 t5 bs' ∧ Below Y.drew.heap.size Y.drew w7) → Calls Tryd.prog 38 #[.agg #[.slice r0 base'.length s0, .slice r1 bs'.length s1, .int .i64 (last' : Int)], .agg (styA live' (journalw gen' first' base' bs').length gen' first' t4 t5)] w7 (fun e w' => e = .returned (.bool true) ∧ Below w7.heap.size w7 w') := fun w7 t4 t5 q => by
          have q2 := P2.q2
          have f1 := P2.js.f1
          have f2 := P2.js.f2
          refine holds_eq w7 (P2.b0.keep (stay_below q.2.2)) (P2.b1.keep (stay_below q.2.2)) q.1 q.2.1 ?_ (by omega) (fun x hx => ?_) f1 (by omega) hN.out.hl.symm
          · have := P2.js.gb.n
            omega
          · have := (P2.js.gs x hx).n
            omega
        replace Hq := mkHid Hq
        have HN2 := mkHid (And.intro P2 (And.intro (hN.out.lw.below bD) (And.intro rk (And.intro hN.out.hl hN.out.ne))))
        clear hN bD P2 rk Ca Cb hSd hSa kz
        go_upto_region 12 with fail
        go_region_held3 (fun w' => w'.cell? ⟨k, 0, none⟩ = some (.slice r0 base'.length s0) ∧ w'.cell? ⟨k, 1, none⟩ = some (.slice r1 bs'.length s1) ∧ w'.cell? ⟨k, 2, none⟩ = some (.int .i64 (last' : Int))) (first | assumption | exact ⟨g0, g1, g2⟩ | exact hS7 | exact hS8)
          (first
            | (go_at_call 17; with_reducible refine Calls.mono CL.out ?_; rintro e w7 ⟨rfl, hw7⟩; subst hw7)
            | (go_at_call 20; with_reducible refine Calls.mono CS.out ?_; rintro e w7 ⟨t4, t5, rfl, k4, k5, b7⟩; have hS7 := And.intro (cell_below b7 g0) (And.intro (cell_below b7 g1) (cell_below b7 g2)); replace k4 := mkHid (And.intro k4 (And.intro k5 b7)); clear k5 b7; have CHo := mkHid (Hq.out w7 t4 t5 k4.out))
            | (go_at_call 38; with_reducible refine Calls.mono CHo.out ?_; rintro e w8 ⟨rfl, b8⟩; have hS8 := And.intro (cell_below b8 hS7.1) (And.intro (cell_below b8 hS7.2.1) (cell_below b8 hS7.2.2)); replace b8 := mkHid b8))
        have bY8 := k4.out.2.2.trans (b8.out.mono k4.out.2.2.size)
        have P3 := HN2.out.1.below bY8
        have L3 := HN2.out.2.1.below bY8
        have hT := HY.out.2.2.2.1
        obtain ⟨m0, m1, m2⟩ := hS8
        have st := st_Bk w8 (W.heap.size + 1) _ #[.slice r0 base'.length s0, .slice r1 bs'.length s1, .int .i64 (last' : Int)] rfl rfl (by simp [Value.oneCell']) L3.rb
        have L4 := L3.setR #[.slice r0 base'.length s0, .slice r1 bs'.length s1, .int .i64 (last' : Int)] ⟨_, rfl, nu_slice _ _ _⟩
        have P4 := P3.free (L3.freR #[.slice r0 base'.length s0, .slice r1 bs'.length s1, .int .i64 (last' : Int)]) (hT.below L4.bel hT.sz) (fun i c t _ ht hc => setRow_other _ _ _ _ (row_ne hc L3.rb (by rcases ht with rfl | rfl | rfl <;> decide)))
        obtain ⟨w9, hw9⟩ : ∃ w9, w8.setRow (W.heap.size + 1) #[.slice r0 base'.length s0, .slice r1 bs'.length s1, .int .i64 (last' : Int)] = w9 := ⟨_, rfl⟩
        rw [hw9] at st L4 P4
        have C5 := P4.js.count
        have hz9 : W.heap.size + 3 ≤ w9.heap.size := Nat.le_trans L4.lo3 L4.sz
        obtain ⟨ga, gc, w11, hrA, hoA, hgA⟩ := own_addI L4.oc hz9 (by omega) ((n' : Nat) : Int)
        obtain ⟨L5, F5, S5⟩ := L4.addC hoA hgA
        have P5 := P4.free F5 (hT.below L5.bel hT.sz) (S5 _)
        have d0 : w11.cell? ⟨W.heap.size + 1, 0, none⟩ = some (.slice r0 base'.length s0) := (cell_of_row _ _ _ _ _ _ L5.rb).trans rfl
        have d1 : w11.cell? ⟨W.heap.size + 1, 1, none⟩ = some (.slice r1 bs'.length s1) := (cell_of_row _ _ _ _ _ _ L5.rb).trans rfl
        have d2 : w11.cell? ⟨W.heap.size + 1, 2, none⟩ = some (.int .i64 (last' : Int)) := (cell_of_row _ _ _ _ _ _ L5.rb).trans rfl
        have hz11 : W.heap.size + 3 ≤ w11.heap.size := Nat.le_trans L5.lo3 L5.sz
        obtain ⟨gb, gd, w12, hrB, hoB, hgB⟩ := own_addK L5.ob hz11 (by omega) (.slice r0 base'.length s0) (.slice r1 bs'.length s1) (.int .i64 (last' : Int)) rfl rfl rfl
        obtain ⟨L6, F6, S6⟩ := L5.addB hoB hgB
        have P6 := P5.free F6 (hT.below L6.bel hT.sz) (S6 _)
        have hll := HN2.out.2.2.2.1
        have hne := HN2.out.2.2.2.2
        have hlen := L5.ob.1
        have LV2 : Hid (Lv W lo j v (i + 1) (.slice ga (i + 1 + 1) gc) (.slice gb (i + 1 + 1) gd) (.slice (some ⟨g, o, none⟩) ss.length cu) ss w12) := by
          refine ⟨_, _, _, _, _, _, _, _, _, _, P6, by rw [← hll]; exact L6, ?_, fun ls _ h => hne (hcc.out ls h)⟩
          rw [← hll, List.drop_append_of_le_length (by omega), List.drop_of_length_le (by omega)]
          rfl
        clear P3 L3 L4 P4 L5 F5 S5 P5 L6 F6 S6 P6 hoA hgA hoB hgB hll hne hlen hw9 bY8 hT HN2 hz9 hz11 HY CL CS Hq CHo k4 b8 hS7
        go_wp2_with fail
        refine C5.mono ?_
        rintro e w10 ⟨rfl, hw10⟩
        subst hw10
        clear C5
        go_wp2_with fail
        exact ⟨⟨i + 1, _, _, _, _, by simp, rfl, rfl, by omega, LV2⟩, by simp only [intOf]; omega⟩
      · obtain ⟨k, hk⟩ : ∃ k, wr.heap.size = k := ⟨_, rfl⟩
        rw [hk] at hN
        rw [hk]
        obtain ⟨Y, hY⟩ : ∃ Y, w6.setRow k #[v0, v1, .int .i64 (last' : Int)] = Y := ⟨_, rfl⟩
        rw [hY] at hN
        rw [hY]
        clear st1 hSx k6 s6 hk hY
        obtain ⟨r0, s0, ev0⟩ := hN.out.ply.b0.sl
        obtain ⟨r1, s1, ev1⟩ := hN.out.ply.b1.sl
        subst ev0 ev1
        have bD := below_drew Y
        have P2 := hN.out.ply.below bD
        have rk := (bD.block _ (Array.getElem?_eq_some_iff.1 hN.out.row).1).trans hN.out.row
        have g0 : Y.drew.cell? ⟨k, 0, none⟩ = some (.slice r0 base'.length s0) := (cell_of_row _ _ _ _ _ _ rk).trans rfl
        have g1 : Y.drew.cell? ⟨k, 1, none⟩ = some (.slice r1 bs'.length s1) := (cell_of_row _ _ _ _ _ _ rk).trans rfl
        have g2 : Y.drew.cell? ⟨k, 2, none⟩ = some (.int .i64 (last' : Int)) := (cell_of_row _ _ _ _ _ _ rk).trans rfl
        have CL := P2.js.last
        have CS := mkHid P2.js.story
        rw [← hN.out.hl] at CL
        replace CL := mkHid CL
        have Hq : ∀ w7 t4 t5, (Ll Y.drew.heap.size w7 t4 base' ∧ Lb Y.drew.heap.size w7 t5 bs' ∧ Below Y.drew.heap.size Y.drew w7) → Calls Tryd.prog 38 #[.agg #[.slice r0 base'.length s0, .slice r1 bs'.length s1, .int .i64 (last' : Int)], .agg (styA live' (journalw gen' first' base' bs').length gen' first' t4 t5)] w7 (fun e w' => e = .returned (.bool true) ∧ Below w7.heap.size w7 w') := fun w7 t4 t5 q => by
          have q2 := P2.q2
          have f1 := P2.js.f1
          have f2 := P2.js.f2
          refine holds_eq w7 (P2.b0.keep (stay_below q.2.2)) (P2.b1.keep (stay_below q.2.2)) q.1 q.2.1 ?_ (by omega) (fun x hx => ?_) f1 (by omega) hN.out.hl.symm
          · have := P2.js.gb.n
            omega
          · have := (P2.js.gs x hx).n
            omega
        replace Hq := mkHid Hq
        have HN2 := mkHid (And.intro P2 (And.intro (hN.out.lw.below bD) (And.intro rk (And.intro hN.out.hl hN.out.ne))))
        clear hN bD P2 rk Ca Cb hSd hSa kz
        go_upto_region 12 with fail
        go_region_held3 (fun w' => w'.cell? ⟨k, 0, none⟩ = some (.slice r0 base'.length s0) ∧ w'.cell? ⟨k, 1, none⟩ = some (.slice r1 bs'.length s1) ∧ w'.cell? ⟨k, 2, none⟩ = some (.int .i64 (last' : Int))) (first | assumption | exact ⟨g0, g1, g2⟩ | exact hS7 | exact hS8)
          (first
            | (go_at_call 17; with_reducible refine Calls.mono CL.out ?_; rintro e w7 ⟨rfl, hw7⟩; subst hw7)
            | (go_at_call 20; with_reducible refine Calls.mono CS.out ?_; rintro e w7 ⟨t4, t5, rfl, k4, k5, b7⟩; have hS7 := And.intro (cell_below b7 g0) (And.intro (cell_below b7 g1) (cell_below b7 g2)); replace k4 := mkHid (And.intro k4 (And.intro k5 b7)); clear k5 b7; have CHo := mkHid (Hq.out w7 t4 t5 k4.out))
            | (go_at_call 38; with_reducible refine Calls.mono CHo.out ?_; rintro e w8 ⟨rfl, b8⟩; have hS8 := And.intro (cell_below b8 hS7.1) (And.intro (cell_below b8 hS7.2.1) (cell_below b8 hS7.2.2)); replace b8 := mkHid b8))
        have bY8 := k4.out.2.2.trans (b8.out.mono k4.out.2.2.size)
        have P3 := HN2.out.1.below bY8
        have L3 := HN2.out.2.1.below bY8
        have hT := HY.out.2.2.2.1
        obtain ⟨m0, m1, m2⟩ := hS8
        have st := st_Bk w8 (W.heap.size + 1) _ #[.slice r0 base'.length s0, .slice r1 bs'.length s1, .int .i64 (last' : Int)] rfl rfl (by simp [Value.oneCell']) L3.rb
        have L4 := L3.setR #[.slice r0 base'.length s0, .slice r1 bs'.length s1, .int .i64 (last' : Int)] ⟨_, rfl, nu_slice _ _ _⟩
        have P4 := P3.free (L3.freR #[.slice r0 base'.length s0, .slice r1 bs'.length s1, .int .i64 (last' : Int)]) (hT.below L4.bel hT.sz) (fun i c t _ ht hc => setRow_other _ _ _ _ (row_ne hc L3.rb (by rcases ht with rfl | rfl | rfl <;> decide)))
        obtain ⟨w9, hw9⟩ : ∃ w9, w8.setRow (W.heap.size + 1) #[.slice r0 base'.length s0, .slice r1 bs'.length s1, .int .i64 (last' : Int)] = w9 := ⟨_, rfl⟩
        rw [hw9] at st L4 P4
        have C5 := P4.js.count
        have hz9 : W.heap.size + 3 ≤ w9.heap.size := Nat.le_trans L4.lo3 L4.sz
        obtain ⟨ga, gc, w11, hrA, hoA, hgA⟩ := own_addI L4.oc hz9 (by omega) ((n' : Nat) : Int)
        obtain ⟨L5, F5, S5⟩ := L4.addC hoA hgA
        have P5 := P4.free F5 (hT.below L5.bel hT.sz) (S5 _)
        have d0 : w11.cell? ⟨W.heap.size + 1, 0, none⟩ = some (.slice r0 base'.length s0) := (cell_of_row _ _ _ _ _ _ L5.rb).trans rfl
        have d1 : w11.cell? ⟨W.heap.size + 1, 1, none⟩ = some (.slice r1 bs'.length s1) := (cell_of_row _ _ _ _ _ _ L5.rb).trans rfl
        have d2 : w11.cell? ⟨W.heap.size + 1, 2, none⟩ = some (.int .i64 (last' : Int)) := (cell_of_row _ _ _ _ _ _ L5.rb).trans rfl
        have hz11 : W.heap.size + 3 ≤ w11.heap.size := Nat.le_trans L5.lo3 L5.sz
        obtain ⟨gb, gd, w12, hrB, hoB, hgB⟩ := own_addK L5.ob hz11 (by omega) (.slice r0 base'.length s0) (.slice r1 bs'.length s1) (.int .i64 (last' : Int)) rfl rfl rfl
        obtain ⟨L6, F6, S6⟩ := L5.addB hoB hgB
        have P6 := P5.free F6 (hT.below L6.bel hT.sz) (S6 _)
        have hll := HN2.out.2.2.2.1
        have hne := HN2.out.2.2.2.2
        have hlen := L5.ob.1
        have LV2 : Hid (Lv W lo j v (i + 1) (.slice ga (i + 1 + 1) gc) (.slice gb (i + 1 + 1) gd) (.slice (some ⟨g, o, none⟩) ss.length cu) ss w12) := by
          refine ⟨_, _, _, _, _, _, _, _, _, _, P6, by rw [← hll]; exact L6, ?_, fun ls _ h => hne (hcc.out ls h)⟩
          rw [← hll, List.drop_append_of_le_length (by omega), List.drop_of_length_le (by omega)]
          rfl
        clear P3 L3 L4 P4 L5 F5 S5 P5 L6 F6 S6 P6 hoA hgA hoB hgB hll hne hlen hw9 bY8 hT HN2 hz9 hz11 HY CL CS Hq CHo k4 b8 hS7
        go_wp2_with fail
        refine C5.mono ?_
        rintro e w10 ⟨rfl, hw10⟩
        subst hw10
        clear C5
        go_wp2_with fail
        exact ⟨⟨i + 1, _, _, _, _, by simp, rfl, rfl, by omega, LV2⟩, by simp only [intOf]; omega⟩
    · have hlt2 : ¬ (i : Int) < (ss.length : Int) := by omega
      obtain rfl : i = ss.length := by omega
      clear hP hW hrs
      go_wp2_with fail
      (try simp only [Exit.inBlock, Exit.then])
      refine bodyPost_ret (results_tmp4 rfl _ _ _) rfl ?_
      exact ⟨_, _, _, _, _, rfl, HI.out⟩
end Dev
end Go.Proofs.YtfimaflglnemdaaDoor

/- The journal's rows: the law's grown: the steps and one more. -/
namespace Go.Proofs.YtfimaflglnemdaaDoor
open Go.RowKit
open JM
set_option maxRecDepth 20000
def slS (v : Value) (lo hi mx : Option Value) : Sem Value := Instr.slice 33 v lo hi mx
theorem toSlS (v : Value) (lo hi mx : Option Value) : Instr.slice 33 v lo hi mx = slS v lo hi mx := rfl
def apS (ty : Nat) (vs : Array Value) : Sem Value := Builtin.append_ #[33, 33] ty vs
theorem toApS (ty : Nat) (vs : Array Value) : Builtin.append_ #[33, 33] ty vs = apS ty vs := rfl
theorem elemS : Tryd.prog.elem 33 = 32 := by kernel_rfl
theorem uS : Tryd.prog.underlying 33 = some (.slice (Tryd.prog.elem 33)) := by kernel_rfl
theorem infoS : (Tryd.prog.info? 32).map (fun i => (i.zero, i.size, i.bytes)) = some (some (.agg #[.bool false, .slice none 0 0]), 2, 32) := by kernel_rfl
theorem run_sizeS (w : World) : (sizeOf 32).run Tryd.prog w = .ok 2 w := by
  obtain ⟨i0, hi0, hz0, hz1, hz2⟩ := info_parts infoS
  simp [sizeOf, typeInfo, hi0, hz1]
theorem sl_h (w : World) (g o n c : Nat) (h : Nat) (hc : h ≤ c) : (slS (.slice (some ⟨g, o, none⟩) n c) none (some (.int .i64 (h : Int))) none).run Tryd.prog w = .ok (.slice (some ⟨g, o, none⟩) h c) w := by
  have := run_slice_h (P := Tryd.prog) w 33 (some ⟨g, o, none⟩) n c uS .i64 (h : Int) (by omega) (by omega)
  unfold slS
  rw [this, elemS, run_sizeS]
  simp [Result.andThen, sliced, Addr.add_mid]
theorem sl_hm (w : World) (oa : Option Addr) (n c : Nat) (hc : n ≤ c) (ho : 0 < n → ∃ g o, oa = some ⟨g, o, none⟩) : (slS (.slice oa n c) none (some (.int .i64 (n : Int))) (some (.int .i64 (n : Int)))).run Tryd.prog w = .ok (.slice oa n n) w := by
  have := run_slice_hm (P := Tryd.prog) w 33 oa n c uS .i64 .i64 (n : Int) (n : Int) (by omega) (by omega) (by omega)
  unfold slS
  rw [this, elemS, run_sizeS]
  by_cases h : n = 0
  · subst h
    simp [Result.andThen, sliced]
  · obtain ⟨g, o, rfl⟩ := ho (by omega)
    simp [Result.andThen, sliced, Addr.add_mid]
/-- The cells of steps. -/
def scs (W : World) (g o : Nat) : Nat → List Value
  | 0 => []
  | n + 1 => scs W g o n ++ [(W.cell? ⟨g, o + n * 2, none⟩).getD undef, (W.cell? ⟨g, o + (n * 2 + 1), none⟩).getD undef]
theorem scs_len (W : World) (g o : Nat) : ∀ n, (scs W g o n).length = n * 2
  | 0 => rfl
  | n + 1 => by rw [scs, List.length_append, scs_len W g o n]; simp; omega
theorem scs_get (W : World) (g o : Nat) : ∀ (n j : Nat), j < n * 2 → (scs W g o n)[j]? = some ((W.cell? ⟨g, o + j, none⟩).getD undef)
  | 0, j, h => by omega
  | n + 1, j, h => by
    rw [scs]
    by_cases hj : j < n * 2
    · rw [List.getElem?_append_left (by rw [scs_len]; exact hj), scs_get W g o n j hj]
    · rw [List.getElem?_append_right (by rw [scs_len]; omega), scs_len]
      obtain rfl | rfl : j = n * 2 ∨ j = n * 2 + 1 := by omega
      · rw [Nat.sub_self]; rfl
      · rw [Nat.add_sub_cancel_left]; rfl
theorem Ss.cells {W : World} {oa : Option Addr} {cap n : Nat} {ss : List (Bool × List (List Nat))} (h : Ss W (.slice oa n cap) ss) {g o : Nat} (he : oa = some ⟨g, o, none⟩) : ∀ j, j < ss.length * 2 → ∃ u, W.cell? ⟨g, o + j, none⟩ = some u := fun j hj => by
  obtain ⟨oa', cap', e, h2, h3, h4⟩ := h
  injection e with e1 e2 e3
  subst e1
  obtain ⟨g', o', x, e, c1, c2, _⟩ := h4 (j / 2) (by omega)
  rw [he] at e
  injection e with e
  injection e with eg eo _
  subst eg eo
  rcases Nat.mod_two_eq_zero_or_one j with m | m
  · exact ⟨_, by rw [show o + j = o + j / 2 * 2 by omega]; exact c1⟩
  · exact ⟨_, by rw [show o + j = o + j / 2 * 2 + 1 by omega]; exact c2⟩
/-- A step more. -/
theorem app_steps {W A : World} {oa : Option Addr} {c0 : Nat} {ss : List (Bool × List (List Nat))} (hS : Ss W (.slice oa ss.length c0) ss) (hn : ss.length ≤ 1000000) (hb : Below W.heap.size W A) {k : Nat} {x : Value} {ls : List (List Nat)} (k0 : A.cell? ⟨k, 0, none⟩ = some (.bool false)) (k1 : A.cell? ⟨k, 1, none⟩ = some x) (hx : Lr A x ls) (hxl : ∀ y ∈ ls, y.length ≤ LIM) :
    ∃ g c w', (apS 33 #[.slice oa ss.length ss.length, .slice (some ⟨k, 0, none⟩) 1 1]).run Tryd.prog A = .ok (.slice (some ⟨g, 0, none⟩) (ss.length + 1) c) w' ∧ Ss w' (.slice (some ⟨g, 0, none⟩) (ss.length + 1) c) (ss ++ [(false, ls)]) ∧ Below A.heap.size A w' := by
  obtain ⟨i0, hi0, hz0, hz1, hz2⟩ := info_parts infoS
  obtain ⟨ox, cx, rfl⟩ := hx.sl
  have hnew : ∀ (j : Nat) (u : Value), ([.bool false, .slice ox ls.length cx] : List Value)[j]? = some u → A.cell? ((⟨k, 0, none⟩ : Addr).add j) = some u := fun j u hu => by
    rw [Addr.add_lit, Nat.zero_add]
    match j, hu with
    | 0, hu => injection hu with hu; subst hu; exact k0
    | 1, hu => injection hu with hu; subst hu; exact k1
  have key : ∃ olds v' w', (apS 33 #[.slice oa ss.length ss.length, .slice (some ⟨k, 0, none⟩) 1 1]).run Tryd.prog A = .ok v' w' ∧ w'.ownsRow A.heap.size 32 2 v' (ss.length + 1) (olds ++ [.bool false, .slice ox ls.length cx]) ∧ A.grownBy w' none ∧ olds.length = ss.length * 2 ∧ ∀ j, j < ss.length * 2 → ∀ g o, oa = some ⟨g, o, none⟩ → olds[j]? = W.cell? ⟨g, o + j, none⟩ := by
    by_cases h0 : ss.length = 0
    · cases oa with
      | none =>
        rw [h0]
        obtain ⟨v', w', r1, r2, r3, -, -⟩ := run_append_own_at (P := Tryd.prog) A A.heap.size 33 33 32 i0 _ 2 32 Tryd.underlying33 hi0 hz0 hz1 hz2 rfl (by omega) (.slice none 0 0) 0 [] (World.ownsRow_nil _ _ _ _) ⟨k, 0, none⟩ 1 1 [.bool false, .slice ox ls.length cx] rfl hnew (fun y hy => by
          simp only [List.mem_cons, List.not_mem_nil, or_false] at hy
          rcases hy with rfl | rfl <;> rfl) (by unfold maxLen; omega) (by omega) (Nat.le_refl _)
        exact ⟨[], v', w', r1, r2, r3, rfl, fun j hj => by omega⟩
      | some b =>
        rw [h0]
        obtain ⟨v', w', r1, r2, r3⟩ := run_append_arg_grows (P := Tryd.prog) A 33 33 32 i0 _ 2 32 Tryd.underlying33 hi0 hz0 hz1 hz2 rfl (by omega) b 0 0 [] rfl (fun j u hu => by simp at hu) ⟨k, 0, none⟩ 1 1 [.bool false, .slice ox ls.length cx] rfl hnew (by omega) (by unfold maxLen; omega) (by omega)
        exact ⟨[], v', w', r1, r2, r3, rfl, fun j hj => by omega⟩
    · obtain ⟨oa', cap', e, h2, h3, h4⟩ := id hS
      injection e with e1 _ e3
      obtain ⟨g, o, x, rfl, _⟩ := h4 0 (by omega)
      subst e1
      have hcs := hS.cells rfl
      obtain ⟨v', w', r1, r2, r3⟩ := run_append_arg_grows (P := Tryd.prog) A 33 33 32 i0 _ 2 32 Tryd.underlying33 hi0 hz0 hz1 hz2 rfl (by omega) ⟨g, o, none⟩ ss.length ss.length (scs W g o ss.length) (scs_len ..) (fun j u hu => by
        have hj : j < ss.length * 2 := by have := (List.getElem?_eq_some_iff.1 hu).1; rwa [scs_len] at this
        rw [scs_get _ _ _ _ _ hj] at hu
        obtain ⟨y, hy⟩ := hcs j hj
        rw [Addr.add_lit, cell_below hb hy]
        rw [hy] at hu
        exact hu) ⟨k, 0, none⟩ 1 1 [.bool false, .slice ox ls.length cx] rfl hnew (by omega) (by unfold maxLen; omega) (by omega)
      refine ⟨_, v', w', r1, r2, r3, scs_len .., fun j hj g' o' e' => ?_⟩
      injection e' with e'
      injection e' with eg eo _
      subst eg eo
      obtain ⟨y, hy⟩ := hcs j hj
      rw [scs_get _ _ _ _ _ hj, hy]
      rfl
  obtain ⟨olds, v', w', r1, r2, r3, r4, r5⟩ := key
  have bA : Below A.heap.size A w' := ⟨r3.os, r3.tape, r3.output, r3.size, fun j hj => r3.block j hj (by simp)⟩
  rcases r2.2 with ⟨_, h⟩ | ⟨g, c, cur, rfl, _, hr, h5, h6, _, h8⟩
  · omega
  have hcell : ∀ j, j < (ss.length + 1) * 2 → w'.cell? ⟨g, j, none⟩ = (olds ++ [.bool false, .slice ox ls.length cx])[j]? := fun j hj => by
    rw [cell_of_row _ _ _ _ _ _ hr, ← h8, List.getElem?_take, if_pos hj, Array.getElem?_toList]
  have hcap : ss.length + 1 ≤ c ∧ c ≤ maxLen := ⟨h5, h6⟩
  refine ⟨g, c, w', r1, ⟨_, _, by rw [List.length_append]; rfl, by rw [List.length_append]; exact hcap.1, hcap.2, fun i hi => ?_⟩, bA⟩
  rw [List.length_append, List.length_singleton] at hi
  by_cases hlt : i < ss.length
  · obtain ⟨oa', cap', e, h2, h3, h4⟩ := hS
    injection e with e1 _ e3
    subst e1
    obtain ⟨g', o', y, e, c1, c2, c3, c4⟩ := h4 i hlt
    have hg : (ss ++ [(false, ls)])[i]'(by rw [List.length_append]; exact Nat.lt_of_lt_of_le hlt (Nat.le_add_right _ _)) = ss[i] := List.getElem_append_left hlt
    rw [hg]
    refine ⟨g, 0, y, rfl, ?_, ?_, (c3.below hb).below bA, c4⟩
    · rw [Nat.zero_add, hcell _ (by omega), List.getElem?_append_left (by rw [r4]; omega), r5 _ (by omega) g' o' e, c1]
    · rw [Nat.zero_add, hcell _ (by omega), List.getElem?_append_left (by rw [r4]; omega), r5 _ (by omega) g' o' e, ← Nat.add_assoc, c2]
  · obtain rfl : i = ss.length := by omega
    have hg : (ss ++ [(false, ls)])[ss.length]'(by simp) = (false, ls) := by simp
    rw [hg]
    refine ⟨g, 0, .slice ox ls.length cx, rfl, ?_, ?_, hx.below bA, hxl⟩
    · rw [Nat.zero_add, hcell _ (by omega), List.getElem?_append_right (by omega), r4, Nat.sub_self]; rfl
    · rw [Nat.zero_add, hcell _ (by omega), List.getElem?_append_right (by omega), r4, Nat.add_sub_cancel_left]; rfl
/-- The step that is added. -/
def three : List (List Nat) := [[7], [], [8, 9]]
theorem Ss.take {W : World} {oa : Option Addr} {c : Nat} {ss : List (Bool × List (List Nat))} (h : Ss W (.slice oa ss.length c) ss) (n : Nat) (hn : n ≤ ss.length) : Ss W (.slice oa n c) (ss.take n) := by
  obtain ⟨oa', cap', e, h2, h3, h4⟩ := h
  injection e with e1 _ e3
  subst e1 e3
  have hl : (ss.take n).length = n := by rw [List.length_take]; omega
  refine ⟨oa, c, by rw [hl], by omega, h3, fun i hi => ?_⟩
  have he : (ss.take n)[i] = ss[i]'(by omega) := List.getElem_take
  rw [he]
  exact h4 i (by omega)
end Go.Proofs.YtfimaflglnemdaaDoor

/- The journal's rows: the law's grown. -/
namespace Go.Proofs.YtfimaflglnemdaaDoor
open Go.RowKit
open JM
set_option maxRecDepth 20000
namespace Dev
theorem results_DS {fn : Func} {p q u : Tmp} (h : fn.results = #[.cell p 26, .cell q 47, .tmp u]) (tmps : Array Value) (w : World) (g g2 : Nat) (C D : Array Value) (hC : C.size = 2) (hD : D.size = 6)
    (hp : tmps.getD p undef = .pointer (some ⟨g, 0, none⟩)) (hg : w.heap[g]? = some (.cells C 26 (0, 0)))
    (hq : tmps.getD q undef = .pointer (some ⟨g2, 0, none⟩)) (hg2 : w.heap[g2]? = some (.cells D 47 (0, 0))) :
    (results fn tmps).run Tryd.prog w = .ok (.tuple #[.agg C, .agg D, tmps.getD u undef]) w := by
  have hp' : tmps[p]?.getD undef = .pointer (some ⟨g, 0, none⟩) := by simpa using hp
  have hq' : tmps[q]?.getD undef = .pointer (some ⟨g2, 0, none⟩) := by simpa using hq
  simp [results, h, hp', hq', asAddr, run_loadVar_row w g 26 26 C (0, 0) _ hg Tryd.underlying26 rfl (by rw [sizeD, hC]), run_loadVar_row w g2 47 47 D (0, 0) _ hg2 Tryd.underlying47 rfl (by rw [sizeSt, hD])]
theorem st_Dn (w : World) (D : Array Value) (hD : D.size = 2) (h1 : D.all (·.oneCell') = true) : (stD (.pointer (some ⟨w.heap.size, 0, none⟩)) (.agg D)).run Tryd.prog (w.alloc (.cells #[.slice none 0 0, .slice none 0 0] 26)) = .ok () (w.alloc (.cells D 26)) := by
  exact (st_D _ _ zD D rfl hD h1 (heap_alloc_new _ _)).trans (by rw [World.setRow_alloc_new])
/-- What a journal's numbers are within. -/
structure Jq (live gen first : Nat) (base : List (List Nat)) (bs : List (List (List Nat))) : Prop where
  lv : live ≤ 1
  g1 : 1 ≤ gen
  g2 : gen ≤ 1000
  f1 : 1 ≤ first
  f2 : first + bs.length ≤ 1000
  gb : Gl base
  gs : ∀ b ∈ bs, Gl b
  len : (journalw gen first base bs).length ≤ 4194367
  len2 : (journalw gen first base bs).length ≤ 1052844
  s20 : ∀ b ∈ bs, b.length ≤ 20
  ne : bs ≠ []
  f3 : first + bs.length ≤ 500
/-- What grown answers. -/
def Grn (W : World) (e : Ending) (w' : World) : Prop :=
  ∃ (live gen first : Nat) (base : List (List Nat)) (bs : List (List (List Nat))) (x : Sp) (c : Array Value) (t4 t5 : Value), e = .returned (.tuple #[.agg c, .agg (styA live (journalw gen first base bs).length gen first t4 t5), .bool true]) ∧ DkP W x c w' ∧ Ll W.heap.size w' t4 base ∧ Lb W.heap.size w' t5 bs ∧ (fl x live).1 = journalw gen first base bs ∧ (fl x (1 - live)).1 = [] ∧ Jq live gen first base bs
/-- The four rows of the step that is added. -/
def thr (X : World) : World := (((X.alloc (.cells #[.int .u8 7] 5)).alloc (.cells #[.int .u8 8, .int .u8 9] 5)).alloc (.cells #[.slice (some ⟨X.heap.size, 0, none⟩) 1 1, .slice none 0 0, .slice (some ⟨X.heap.size + 1, 0, none⟩) 2 2] 23)).alloc (.cells #[.bool false, .slice (some ⟨X.heap.size + 1 + 1, 0, none⟩) 3 3] 32)
theorem thr_bel (X : World) : Below X.heap.size X (thr X) := ((below2 X _ _).alloc (by simp; omega) _).alloc (by simp; omega) _
theorem thr_row (X : World) : (thr X).heap[X.heap.size]? = some (.cells #[.int .u8 7] 5 (0, 0)) ∧ (thr X).heap[X.heap.size + 1]? = some (.cells #[.int .u8 8, .int .u8 9] 5 (0, 0)) ∧ (thr X).heap[X.heap.size + 1 + 1]? = some (.cells #[.slice (some ⟨X.heap.size, 0, none⟩) 1 1, .slice none 0 0, .slice (some ⟨X.heap.size + 1, 0, none⟩) 2 2] 23 (0, 0)) ∧ (thr X).heap[X.heap.size + 1 + 1 + 1]? = some (.cells #[.bool false, .slice (some ⟨X.heap.size + 1 + 1, 0, none⟩) 3 3] 32 (0, 0)) := by
  obtain ⟨r0, r1, r2, _⟩ := row3 X (.cells #[.int .u8 7] 5) (.cells #[.int .u8 8, .int .u8 9] 5) (.cells #[.slice (some ⟨X.heap.size, 0, none⟩) 1 1, .slice none 0 0, .slice (some ⟨X.heap.size + 1, 0, none⟩) 2 2] 23)
  refine ⟨(heap_alloc_old _ _ (h := (Array.getElem?_eq_some_iff.1 r0).1)).trans r0, (heap_alloc_old _ _ (h := (Array.getElem?_eq_some_iff.1 r1).1)).trans r1, (heap_alloc_old _ _ (h := (Array.getElem?_eq_some_iff.1 r2).1)).trans r2, ?_⟩
  have := heap_alloc_new (((X.alloc (.cells #[.int .u8 7] 5)).alloc (.cells #[.int .u8 8, .int .u8 9] 5)).alloc (.cells #[.slice (some ⟨X.heap.size, 0, none⟩) 1 1, .slice none 0 0, .slice (some ⟨X.heap.size + 1, 0, none⟩) 2 2] 23)) (.cells #[.bool false, .slice (some ⟨X.heap.size + 1 + 1, 0, none⟩) 3 3] 32)
  rwa [show (((X.alloc (.cells #[.int .u8 7] 5)).alloc (.cells #[.int .u8 8, .int .u8 9] 5)).alloc (.cells #[.slice (some ⟨X.heap.size, 0, none⟩) 1 1, .slice none 0 0, .slice (some ⟨X.heap.size + 1, 0, none⟩) 2 2] 23)).heap.size = X.heap.size + 1 + 1 + 1 by simp] at this
theorem thr_lr (X : World) : Lr (thr X) (.slice (some ⟨X.heap.size + 1 + 1, 0, none⟩) 3 3) three := by
  obtain ⟨r0, r1, r2, _⟩ := thr_row X
  refine ⟨_, _, rfl, Nat.le_refl _, by unfold maxLen; decide, fun i hi => ?_⟩
  match i, hi with
  | 0, _ => exact ⟨_, _, _, rfl, (cell_of_row _ _ _ _ _ _ r2).trans rfl, bl_row (l := [7]) r0 (fun y hy => by simp at hy; omega) (by unfold maxLen; decide)⟩
  | 1, _ => exact ⟨_, _, _, rfl, (cell_of_row _ _ _ _ _ _ r2).trans rfl, bl_none _⟩
  | 2, _ => exact ⟨_, _, _, rfl, (cell_of_row _ _ _ _ _ _ r2).trans rfl, bl_row (l := [8, 9]) r1 (fun y hy => by simp at hy; omega) (by unfold maxLen; decide)⟩
abbrev S9 (k9 k10 gb live gl g0 g1 n0 n1 Ln gen first nb0 nb1 M la : Nat) (p4 p5 y0 y1 : Option Addr) (q4 q5 z0 z1 : Nat) (w' : World) : Prop := w'.cell? ⟨k9, 0, none⟩ = some (.slice (some ⟨g0, 0, none⟩) n0 n0) ∧ w'.cell? ⟨k9, 1, none⟩ = some (.slice (some ⟨g1, 0, none⟩) n1 n1) ∧ w'.cell? ⟨k9, live, none⟩ = some (.slice (some ⟨gl, 0, none⟩) Ln Ln) ∧ w'.cell? ⟨k10, 0, none⟩ = some (.int .i64 (live : Int)) ∧ w'.cell? ⟨k10, 1, none⟩ = some (.int .i64 (Ln : Int)) ∧ w'.cell? ⟨k10, 2, none⟩ = some (.int .i64 (gen : Int)) ∧ w'.cell? ⟨k10, 3, none⟩ = some (.int .i64 (first : Int)) ∧ w'.cell? ⟨k10, 4, none⟩ = some (.slice p4 nb0 q4) ∧ w'.cell? ⟨k10, 5, none⟩ = some (.slice p5 nb1 q5) ∧ w'.cell? ⟨gb, M * 3, none⟩ = some (.slice y0 nb0 z0) ∧ w'.cell? ⟨gb, M * 3 + 1, none⟩ = some (.slice y1 nb1 z1) ∧ w'.cell? ⟨gb, M * 3 + 2, none⟩ = some (.int .i64 (la : Int))
theorem cell_setR {w : World} {k : Nat} {D : Array Value} {a : Addr} {v : Value} (h : w.cell? a = some v) (hk : a.block ≠ k) : (w.setRow k D).cell? a = some v := (World.cell?_of_block (w := w) (a := a) (setRow_other _ _ _ _ hk)).trans h
section
variable {k9 k10 gb live gl g0 g1 n0 n1 Ln gen first nb0 nb1 M la : Nat} {p4 p5 y0 y1 : Option Addr} {q4 q5 z0 z1 : Nat} {w w' : World}
theorem S9.below (h : S9 k9 k10 gb live gl g0 g1 n0 n1 Ln gen first nb0 nb1 M la p4 p5 y0 y1 q4 q5 z0 z1 w) (hb : Below w.heap.size w w') : S9 k9 k10 gb live gl g0 g1 n0 n1 Ln gen first nb0 nb1 M la p4 p5 y0 y1 q4 q5 z0 z1 w' := by
  obtain ⟨h0, h1, h2, h3, h4, h5, h6, h7, h8, h9, h10, h11⟩ := h
  exact ⟨cell_below hb h0, cell_below hb h1, cell_below hb h2, cell_below hb h3, cell_below hb h4, cell_below hb h5, cell_below hb h6, cell_below hb h7, cell_below hb h8, cell_below hb h9, cell_below hb h10, cell_below hb h11⟩
theorem S9.set (h : S9 k9 k10 gb live gl g0 g1 n0 n1 Ln gen first nb0 nb1 M la p4 p5 y0 y1 q4 q5 z0 z1 w) {k : Nat} (D : Array Value) (a1 : k9 ≠ k) (a2 : k10 ≠ k) (a3 : gb ≠ k) : S9 k9 k10 gb live gl g0 g1 n0 n1 Ln gen first nb0 nb1 M la p4 p5 y0 y1 q4 q5 z0 z1 (w.setRow k D) := by
  obtain ⟨h0, h1, h2, h3, h4, h5, h6, h7, h8, h9, h10, h11⟩ := h
  exact ⟨cell_setR h0 a1, cell_setR h1 a1, cell_setR h2 a1, cell_setR h3 a2, cell_setR h4 a2, cell_setR h5 a2, cell_setR h6 a2, cell_setR h7 a2, cell_setR h8 a2, cell_setR h9 a3, cell_setR h10 a3, cell_setR h11 a3⟩
end
attribute [local go_sem ↓] toSlS toApS toStD toStSt in
set_option maxRecDepth 100000 in
set_option maxHeartbeats 3200000 in
theorem grown_any {us : Value} {ss : List (Bool × List (List Nat))} (W : World) (hS : Ss W us ss) (hT : Tc W) :
    Calls Tryd.prog 11 #[us] W (Grn W) := by
  obtain ⟨oa, cap, rfl⟩ := hS.sl
  have hcap : ss.length ≤ cap := by obtain ⟨_, _, e, h, _⟩ := hS; injection e with _ _ e; subst e; exact h
  obtain ⟨m, hm⟩ : ∃ m, (ss.take 25).length = m := ⟨_, rfl⟩
  have hm25 : m ≤ 25 := by rw [← hm, List.length_take]; omega
  have hmc : m ≤ cap := by rw [← hm, List.length_take]; omega
  have hS2 : Ss W (.slice oa m cap) (ss.take 25) := by
    have := hS.take m (by rw [← hm, List.length_take]; omega)
    rwa [show ss.take m = ss.take 25 by rw [← hm, List.length_take, List.take_eq_take_iff]; omega] at this
  obtain ⟨X, hX⟩ : ∃ X, (W.alloc (.cells #[.slice none 0 0, .slice none 0 0] 26)).alloc (.cells #[.int .i64 0, .int .i64 0, .int .i64 0, .int .i64 0, .slice none 0 0, .slice none 0 0] 47) = X := ⟨_, rfl⟩
  have bX : Below W.heap.size W X := by rw [← hX]; exact below2 _ _ _
  have x0 : X.heap[W.heap.size]? = some (.cells zD 26 (0, 0)) := by rw [← hX]; exact row2 _ _ _
  have x1 : X.heap[W.heap.size + 1]? = some (.cells zS 47 (0, 0)) := by rw [← hX]; exact row2n _ _ _
  have zX : X.heap.size = W.heap.size + 2 := by rw [← hX]; simp
  have bT := thr_bel X
  have bWT : Below W.heap.size W (thr X) := bX.trans (bT.mono bX.size)
  obtain ⟨t0, t1, t2, t3⟩ := thr_row X
  obtain ⟨gs, cs, w1, hrA, hS3, b1⟩ := app_steps (A := thr X) (k := X.heap.size + 1 + 1 + 1) (by rw [hm]; exact hS2) (by omega) bWT ((cell_of_row _ _ _ _ _ _ t3).trans rfl) ((cell_of_row _ _ _ _ _ _ t3).trans rfl) (thr_lr X) (fun y hy => by simp [three] at hy; rcases hy with rfl | rfl | rfl <;> (unfold Go.Proofs.YtfimaflglnemdaaDoor.LIM; simp))
  rw [hm] at hrA hS3
  have hlen : (ss.take 25 ++ [(false, three)]).length = m + 1 := by rw [List.length_append, hm]; rfl
  have b1W : Below W.heap.size W w1 := bWT.trans (b1.mono bWT.size)
  have hT1 : Tc w1 := hT.below b1W hT.sz
  have CL := lived_any w1 hS3 (by omega) hT1
  rw [hlen] at CL
  unfold lifA at CL
  have q2 := fun w => sl_hm w oa m cap hmc (fun h => by
    obtain ⟨_, _, e, _, _, h4⟩ := hS2
    injection e with e _ _
    subst e
    obtain ⟨g, o, _, e, _⟩ := h4 0 (by omega)
    exact ⟨g, o, e⟩)
  have HB := mkHid (And.intro bX (And.intro x0 (And.intro x1 (And.intro zX (And.intro bT (And.intro b1 (And.intro b1W hT1)))))))
  unfold thr at hrA
  have key : (¬ (25 : Int) < (ss.length : Int) ∧ ss.length = m) ∨ ((25 : Int) < (ss.length : Int) ∧ ∀ w, (slS (.slice oa ss.length cap) none (some (.int .i64 25)) none).run Tryd.prog w = .ok (.slice oa m cap) w) := by
    by_cases h : 25 < ss.length
    · obtain ⟨_, _, e, _, _, h4⟩ := hS
      injection e with e _ _
      subst e
      obtain ⟨g, o, _, rfl, _⟩ := h4 0 (by omega)
      obtain rfl : m = 25 := by rw [← hm, List.length_take]; omega
      exact .inr ⟨by omega, fun w => sl_h w g o ss.length cap 25 hmc⟩
    · exact .inl ⟨by omega, by rw [← hm, List.length_take]; omega⟩
  obtain ⟨N, hN⟩ : ∃ N, ss.length = N := ⟨_, rfl⟩
  rw [hN] at key
  rw [hN]
  have hnth := mkHid (show (ss.take 25 ++ [(false, three)])[m + 1 - 1]? = some (false, three) by
    rw [Nat.add_sub_cancel, List.getElem?_append_right (by omega), hm, Nat.sub_self]
    rfl)
  clear hcap hS hS2 bX x0 x1 zX bT bWT t0 t1 t2 t3 hS3 b1 b1W hT1 hlen hm hN hT
  rcases key with ⟨k1, k2⟩ | ⟨k1, k2⟩
  · replace k2 := k2.symm
    subst k2
    go_enter Tryd.func11, Tryd.ntmps11
    go_upto_region 3 with fail
    try rw [hX]
    clear hX
    go_wp2_with fail
    refine CL.mono ?_
    rintro e w2 ⟨lo, j, v, cv, bv, rfl, hLv⟩
    clear CL hrA q2
    letI := hJ j
    obtain ⟨live, gen, first, n, base, bs, u0, u1, xs, rs, hP, hW, hrs, hne0⟩ := hLv
    obtain ⟨x, jn, fx, fo, by0, by1, l0, l1, hr⟩ := hP.js.files
    have CD := jn.disk
    have hne := mkHid (hne0 three (by omega) hnth.out)
    clear hne0 hnth
    obtain ⟨la, hla⟩ : ∃ la, first - 1 + bs.length = la := ⟨_, rfl⟩
    rw [hla] at hrs
    obtain ⟨Ln, hLn⟩ : ∃ Ln, (journalw gen first base bs).length = Ln := ⟨_, rfl⟩
    obtain ⟨M, hM⟩ : ∃ M, m + 1 = M := ⟨_, rfl⟩
    rw [hM] at hP hW hrs
    rw [hM]
    have hM26 : M ≤ 26 := by omega
    clear hM
    obtain ⟨gb, nb, rfl, hgb, hbc⟩ : ∃ gb nb, bv = .slice (some ⟨gb, 0, none⟩) (M + 1) nb ∧ w1.heap.size ≤ gb ∧ ∀ k u, ([u0, u1, .int .i64 (la : Int)] : List Value)[k]? = some u → w2.cell? ⟨gb, M * 3 + k, none⟩ = some u := by
      rcases hW.ob.2 with ⟨_, h⟩ | ⟨gb, nb, cur, rfl, hg0, hg, _, _, _, h8⟩
      · omega
      · refine ⟨gb, nb, rfl, by omega, fun k u hu => ?_⟩
        have hk : k < 3 := by have := (List.getElem?_eq_some_iff.1 hu).1; simpa using this
        rw [← hrs, List.getElem?_drop, ← h8, List.getElem?_take, if_pos (by omega), Array.getElem?_toList] at hu
        exact (cell_of_row _ _ _ _ _ _ hg).trans hu
    obtain ⟨y0, z0, ey0⟩ := hP.b0.sl
    obtain ⟨y1, z1, ey1⟩ := hP.b1.sl
    subst ey0 ey1
    have HP := mkHid (And.intro hP (And.intro hW.bel (And.intro fx fo)))
    have HX := mkHid (And.intro by0 (And.intro by1 (And.intro l0 (And.intro l1 hr))))
    replace hbc := mkHid hbc
    clear hP hW hrs jn fx fo by0 by1 l0 l1 hr
    go_wp2_with fail
    refine CD.mono ?_
    rintro e w3 ⟨c, rfl, g0, g1, rfl, d0, d1, z2, z3, d01, b3⟩
    clear CD
    unfold dkA
    have st1 := st_Dn w3 (dkA g0 x.1.1.length g1 x.2.1.length) rfl (by simp [dkA, Value.oneCell'])
    unfold dkA at st1
    obtain ⟨n0, hn0⟩ : ∃ n0, x.1.1.length = n0 := ⟨_, rfl⟩
    obtain ⟨n1, hn1⟩ : ∃ n1, x.2.1.length = n1 := ⟨_, rfl⟩
    rw [hn0, hn1] at st1
    rw [hn0, hn1]
    obtain ⟨w4, hw4⟩ : ∃ w4, w3.alloc (.cells #[.slice (some ⟨g0, 0, none⟩) n0 n0, .slice (some ⟨g1, 0, none⟩) n1 n1] 26) = w4 := ⟨_, rfl⟩
    have b4 : Below w3.heap.size w3 w4 := by rw [← hw4]; exact (Below.refl _ w3).alloc (Nat.le_refl _) _
    have r9 : w4.heap[w3.heap.size]? = some (.cells #[.slice (some ⟨g0, 0, none⟩) n0 n0, .slice (some ⟨g1, 0, none⟩) n1 n1] 26 (0, 0)) := by rw [← hw4]; exact heap_alloc_new _ _
    rw [hw4] at st1
    have d0b := (b4.block _ (Array.getElem?_eq_some_iff.1 d0).1).trans d0
    have d1b := (b4.block _ (Array.getElem?_eq_some_iff.1 d1).1).trans d1
    have hlM : ∀ a, a ≤ 67108864 → a ≤ maxLen ∧ a ≤ Go.Proofs.YtfimaflglnemdaaDoor.LIM := fun a h => ⟨by unfold maxLen; omega, by unfold Go.Proofs.YtfimaflglnemdaaDoor.LIM; omega⟩
    have C8 := diskOf_any w4 (bl_row d0b HX.out.1 (hlM _ HX.out.2.2.1).1) (bl_row d1b HX.out.2.1 (hlM _ HX.out.2.2.2.1).1) (hlM _ HX.out.2.2.1).2 (hlM _ HX.out.2.2.2.1).2
    rw [hn0, hn1] at C8
    have bY : Below W.heap.size W w2 := HB.out.2.2.2.2.2.2.1.trans (HP.out.2.1.mono HB.out.2.2.2.2.2.2.1.size)
    have b24 : Below w2.heap.size w2 w4 := b3.trans (b4.mono b3.size)
    obtain ⟨k9, hk9⟩ : ∃ k9, w3.heap.size = k9 := ⟨_, rfl⟩
    rw [hk9] at r9 st1
    have c90 : w4.cell? ⟨k9, 0, none⟩ = some (.slice (some ⟨g0, 0, none⟩) n0 n0) := (cell_of_row _ _ _ _ _ _ r9).trans rfl
    have c91 : w4.cell? ⟨k9, 1, none⟩ = some (.slice (some ⟨g1, 0, none⟩) n1 n1) := (cell_of_row _ _ _ _ _ _ r9).trans rfl
    have HD := mkHid (And.intro d0b (And.intro d1b (And.intro z2 (And.intro z3 (And.intro d01 (And.intro b24 (And.intro bY r9)))))))
    have b23 := mkHid b3
    have HN := mkHid (And.intro hn0 (And.intro hn1 (And.intro hLn (And.intro hk9 hla))))
    clear d0 d1 z2 z3 d01 b3 hw4 b4 r9 d0b d1b hlM bY b24 hn0 hn1 hLn hla
    go_wp2_with fail
    refine C8.mono ?_
    rintro e w5 ⟨o2, o3, c2, c3, rfl, e0, e1, b5⟩
    clear C8 st1 hk9
    have b24 := HD.out.2.2.2.2.2.1
    have b25 : Below w2.heap.size w2 w5 := b24.trans (b5.mono b24.size)
    have b15 : Below w1.heap.size w1 w5 := HP.out.2.1.trans (b25.mono HP.out.2.1.size)
    have hT1 := HB.out.2.2.2.2.2.2.2
    have C9 := replay_story w5 e0 e1 (hT1.below b15 hT1.sz) HX.out.2.2.2.2
    dsimp only at C9
    rw [HN.out.2.2.1] at C9
    have c90b := cell_below b5 c90
    have c91b := cell_below b5 c91
    have r9b := (b5.block _ (Array.getElem?_eq_some_iff.1 HD.out.2.2.2.2.2.2.2).1).trans HD.out.2.2.2.2.2.2.2
    have HE := mkHid (And.intro b5 (And.intro b25 (And.intro b15 r9b)))
    clear e0 e1 b5 b24 b25 b15 hT1 c90 c91 r9b
    go_wp2_with fail
    refine C9.mono ?_
    rintro e w6 ⟨t4, t5, rfl, k4, k5, b6⟩
    clear C9
    obtain ⟨p4, q4, et4⟩ := k4.sl
    obtain ⟨p5, q5, et5⟩ := k5.sl
    subst et4 et5
    unfold styA
    have st2 := st_Sn w6 #[.int .i64 (live : Int), .int .i64 (Ln : Int), .int .i64 (gen : Int), .int .i64 (first : Int), .slice p4 base.length q4, .slice p5 bs.length q5] rfl (by simp [Value.oneCell'])
    obtain ⟨w7, hw7⟩ : ∃ w7, w6.alloc (.cells #[.int .i64 (live : Int), .int .i64 (Ln : Int), .int .i64 (gen : Int), .int .i64 (first : Int), .slice p4 base.length q4, .slice p5 bs.length q5] 47) = w7 := ⟨_, rfl⟩
    have b7 : Below w6.heap.size w6 w7 := by rw [← hw7]; exact (Below.refl _ w6).alloc (Nat.le_refl _) _
    have r10 : w7.heap[w6.heap.size]? = some (.cells #[.int .i64 (live : Int), .int .i64 (Ln : Int), .int .i64 (gen : Int), .int .i64 (first : Int), .slice p4 base.length q4, .slice p5 bs.length q5] 47 (0, 0)) := by rw [← hw7]; exact heap_alloc_new _ _
    rw [hw7] at st2
    clear hw7
    obtain ⟨k10, hk10⟩ : ∃ k10, w6.heap.size = k10 := ⟨_, rfl⟩
    rw [hk10] at r10 st2
    have b67 : Below w6.heap.size w6 w7.drew := b7.trans ((below_drew w7).mono b7.size)
    have b57 : Below w5.heap.size w5 w7.drew := b6.trans (b67.mono b6.size)
    have b27 : Below w2.heap.size w2 w7.drew := HE.out.2.1.trans (b57.mono HE.out.2.1.size)
    have s90 := cell_below b57 c90b
    have s91 := cell_below b57 c91b
    obtain ⟨gl, sL⟩ : ∃ gl, w7.drew.cell? ⟨k9, live, none⟩ = some (.slice (some ⟨gl, 0, none⟩) Ln Ln) := by
      have hlv := HP.out.1.js.lv1
      have e := HP.out.2.2.1
      obtain rfl | rfl : live = 0 ∨ live = 1 := by omega
      · refine ⟨g0, s90.trans ?_⟩
        rw [← HN.out.1, ← HN.out.2.2.1, ← e]
        rfl
      · refine ⟨g1, s91.trans ?_⟩
        rw [← HN.out.2.1, ← HN.out.2.2.1, ← e]
        rfl
    have rd10 : w7.drew.heap[k10]? = _ := r10
    have s100 : w7.drew.cell? ⟨k10, 0, none⟩ = some (.int .i64 (live : Int)) := (cell_of_row _ _ _ _ _ _ rd10).trans rfl
    have s101 : w7.drew.cell? ⟨k10, 1, none⟩ = some (.int .i64 (Ln : Int)) := (cell_of_row _ _ _ _ _ _ rd10).trans rfl
    have s102 : w7.drew.cell? ⟨k10, 2, none⟩ = some (.int .i64 (gen : Int)) := (cell_of_row _ _ _ _ _ _ rd10).trans rfl
    have s103 : w7.drew.cell? ⟨k10, 3, none⟩ = some (.int .i64 (first : Int)) := (cell_of_row _ _ _ _ _ _ rd10).trans rfl
    have s104 : w7.drew.cell? ⟨k10, 4, none⟩ = some (.slice p4 base.length q4) := (cell_of_row _ _ _ _ _ _ rd10).trans rfl
    have s105 : w7.drew.cell? ⟨k10, 5, none⟩ = some (.slice p5 bs.length q5) := (cell_of_row _ _ _ _ _ _ rd10).trans rfl
    have sb0 : w7.drew.cell? ⟨gb, M * 3, none⟩ = _ := cell_below b27 (hbc.out 0 _ rfl)
    have sb1 : w7.drew.cell? ⟨gb, M * 3 + 1, none⟩ = _ := cell_below b27 (hbc.out 1 _ rfl)
    have sb2 : w7.drew.cell? ⟨gb, M * 3 + 2, none⟩ = _ := cell_below b27 (hbc.out 2 _ rfl)
    have k4b := k4.keep (stay_below b67)
    have k5b := k5.keep (stay_below b67)
    have CH := holds_eq (i := live) (good := Ln) (gen := gen) w7.drew (HP.out.1.b0.keep (stay_below b27)) (HP.out.1.b1.keep (stay_below b27)) k4b k5b (by have := HP.out.1.js.gb.n; omega) (by have := HP.out.1.js.f2; omega) (fun x hx => by have := (HP.out.1.js.gs x hx).n; omega) HP.out.1.js.f1 (by have := HP.out.1.js.f2; omega) HN.out.2.2.2.2
    unfold bkA styA at CH
    replace CH := mkHid CH
    have hl0 : (0 : Int) ≤ (live : Int) := by omega
    have hM1 : IntKind.i64.wrap (M : Int) = (M : Int) := by rw [IntKind.wrap_i64]; omega
    have hM2 : IntKind.i64.wrap ((M : Int) + 1 - 1) = (M : Int) := by rw [IntKind.wrap_i64]; omega
    have hM3 : (0 : Int) ≤ (M : Int) := by omega
    have hM4 : (M : Int) < (M : Int) + 1 := by omega
    have hM5 : (M : Int) < ((M + 1 : Nat) : Int) := by omega
    have hl1 : (live : Int) < 2 := by have := HP.out.1.js.lv1; omega
    have hS7 : S9 k9 k10 gb live gl g0 g1 n0 n1 Ln gen first base.length bs.length M la p4 p5 y0 y1 q4 q5 z0 z1 w7.drew := ⟨s90, s91, sL, s100, s101, s102, s103, s104, s105, sb0, sb1, sb2⟩
    have HZ : Hid (∀ w8, Below w7.drew.heap.size w7.drew w8 → S9 k9 k10 gb live gl g0 g1 n0 n1 Ln gen first base.length bs.length M la p4 p5 y0 y1 q4 q5 z0 z1 w8 ∧
        (stD (.pointer (some ⟨W.heap.size, 0, none⟩)) (.agg #[.slice (some ⟨g0, 0, none⟩) n0 n0, .slice (some ⟨g1, 0, none⟩) n1 n1])).run Tryd.prog w8 = .ok () (w8.setRow W.heap.size #[.slice (some ⟨g0, 0, none⟩) n0 n0, .slice (some ⟨g1, 0, none⟩) n1 n1]) ∧
        S9 k9 k10 gb live gl g0 g1 n0 n1 Ln gen first base.length bs.length M la p4 p5 y0 y1 q4 q5 z0 z1 (w8.setRow W.heap.size #[.slice (some ⟨g0, 0, none⟩) n0 n0, .slice (some ⟨g1, 0, none⟩) n1 n1]) ∧
        (stSt (.pointer (some ⟨W.heap.size + 1, 0, none⟩)) (.agg #[.int .i64 (live : Int), .int .i64 (Ln : Int), .int .i64 (gen : Int), .int .i64 (first : Int), .slice p4 base.length q4, .slice p5 bs.length q5])).run Tryd.prog (w8.setRow W.heap.size #[.slice (some ⟨g0, 0, none⟩) n0 n0, .slice (some ⟨g1, 0, none⟩) n1 n1]) = .ok () ((w8.setRow W.heap.size #[.slice (some ⟨g0, 0, none⟩) n0 n0, .slice (some ⟨g1, 0, none⟩) n1 n1]).setRow (W.heap.size + 1) #[.int .i64 (live : Int), .int .i64 (Ln : Int), .int .i64 (gen : Int), .int .i64 (first : Int), .slice p4 base.length q4, .slice p5 bs.length q5]) ∧
        S9 k9 k10 gb live gl g0 g1 n0 n1 Ln gen first base.length bs.length M la p4 p5 y0 y1 q4 q5 z0 z1 ((w8.setRow W.heap.size #[.slice (some ⟨g0, 0, none⟩) n0 n0, .slice (some ⟨g1, 0, none⟩) n1 n1]).setRow (W.heap.size + 1) #[.int .i64 (live : Int), .int .i64 (Ln : Int), .int .i64 (gen : Int), .int .i64 (first : Int), .slice p4 base.length q4, .slice p5 bs.length q5]) ∧
        Hid (∃ w10, ((w8.setRow W.heap.size #[.slice (some ⟨g0, 0, none⟩) n0 n0, .slice (some ⟨g1, 0, none⟩) n1 n1]).setRow (W.heap.size + 1) #[.int .i64 (live : Int), .int .i64 (Ln : Int), .int .i64 (gen : Int), .int .i64 (first : Int), .slice p4 base.length q4, .slice p5 bs.length q5]) = w10 ∧ w10.heap[W.heap.size]? = some (.cells (dkA g0 x.1.1.length g1 x.2.1.length) 26 (0, 0)) ∧ w10.heap[W.heap.size + 1]? = some (.cells (styA live (journalw gen first base bs).length gen first (.slice p4 base.length q4) (.slice p5 bs.length q5)) 47 (0, 0)) ∧ DkP W x (dkA g0 x.1.1.length g1 x.2.1.length) w10 ∧ Ll W.heap.size w10 (.slice p4 base.length q4) base ∧ Lb W.heap.size w10 (.slice p5 bs.length q5) bs)) := by
      intro w8 b8
      have hb1 := HB.out.2.2.2.2.1.trans (HB.out.2.2.2.2.2.1.mono HB.out.2.2.2.2.1.size)
      have hb2 := hb1.trans (HP.out.2.1.mono hb1.size)
      have hb7 := hb2.trans (b27.mono hb2.size)
      have hb8 := hb7.trans (b8.mono hb7.size)
      have zX := HB.out.2.2.2.1
      have rx0 := (hb8.block _ (by omega)).trans HB.out.2.1
      have rx1 := (hb8.block _ (by omega)).trans HB.out.2.2.1
      have n9 : w2.heap.size ≤ k9 := by have := HD.out.2.2.2.2.2.1.size; have := HN.out.2.2.2.1; rw [← this]; exact b23.out.size
      have n10 : w2.heap.size ≤ k10 := by rw [← hk10]; exact Nat.le_trans HE.out.2.1.size b6.size
      have nW2 : W.heap.size + 2 ≤ w2.heap.size := by rw [← zX]; exact hb2.size
      have nW1 : W.heap.size + 2 ≤ w1.heap.size := by rw [← zX]; exact hb1.size
      have nW5 : W.heap.size + 2 ≤ w5.heap.size := Nat.le_trans nW2 HE.out.2.1.size
      have S8 := S9.below hS7 b8
      have rx1b : (w8.setRow W.heap.size #[.slice (some ⟨g0, 0, none⟩) n0 n0, .slice (some ⟨g1, 0, none⟩) n1 n1]).heap[W.heap.size + 1]? = some (.cells zS 47 (0, 0)) := (setRow_other _ _ _ _ (by omega)).trans rx1
      have S8b := S9.set S8 #[.slice (some ⟨g0, 0, none⟩) n0 n0, .slice (some ⟨g1, 0, none⟩) n1 n1] (k := W.heap.size) (by omega) (by omega) (by omega)
      refine ⟨S8, st_D w8 _ zD _ rfl rfl (by simp [Value.oneCell']) rx0, S8b, st_Sr _ _ zS _ rfl rfl (by simp [Value.oneCell']) rx1b, S9.set S8b _ (by omega) (by omega) (by omega), _, rfl, ?_, ?_, ?_, ?_, ?_⟩
      · rw [HN.out.1, HN.out.2.1]
        exact (setRow_other _ _ _ _ (by omega)).trans (setRow_heap _ _ _ _ _ _ rx0)
      · rw [HN.out.2.2.1]
        exact setRow_heap _ _ _ _ _ _ rx1b
      · have b48 := HE.out.1.trans ((b57.trans (b8.mono b57.size)).mono HE.out.1.size)
        have g0z := HD.out.2.2.1
        have g1z := HD.out.2.2.2.1
        refine ⟨g0, g1, rfl, (setRow_other _ _ _ _ (by omega)).trans ((setRow_other _ _ _ _ (by omega)).trans ((b48.block _ (Array.getElem?_eq_some_iff.1 HD.out.1).1).trans HD.out.1)), (setRow_other _ _ _ _ (by omega)).trans ((setRow_other _ _ _ _ (by omega)).trans ((b48.block _ (Array.getElem?_eq_some_iff.1 HD.out.2.1).1).trans HD.out.2.1)), by omega, by omega, HD.out.2.2.2.2.1, ?_⟩
        have bY := HD.out.2.2.2.2.2.2.1
        have q7 := bY.trans (b27.mono bY.size)
        have q8 := q7.trans (b8.mono q7.size)
        exact below_setRow (below_setRow q8 (Nat.le_refl _) _) (by omega) _
      · exact ((k4b.keep (stay_below b8)).keep (fun k c t hk _ _ => (setRow_other _ _ _ _ (by omega)).trans (setRow_other _ _ _ _ (by omega)))).mono (by omega)
      · exact ((k5b.keep (stay_below b8)).keep (fun k c t hk _ _ => (setRow_other _ _ _ _ (by omega)).trans (setRow_other _ _ _ _ (by omega)))).mono (by omega)
    have HF := mkHid (And.intro k4b (And.intro k5b (And.intro b57 b27)))
    clear k4 k5 k4b k5b b6 b7 r10 b67 b57 b27 c90b c91b rd10
    clear s90 s91 sL s100 s101 s102 s103 s104 s105 sb0 sb1 sb2
    go_upto_region 9 with fail
    clear hk10
    go_region_held3 (fun w' => S9 k9 k10 gb live gl g0 g1 n0 n1 Ln gen first base.length bs.length M la p4 p5 y0 y1 q4 q5 z0 z1 w') (first | assumption | exact hS7 | exact hS8 | exact hS9 | exact hS10)
      (first
        | (go_at_call 38; with_reducible refine Calls.mono CH.out ?_; rintro e w8 ⟨rfl, b8⟩; obtain ⟨hS8, st3, hS9, st4, hS10, FIN⟩ := HZ.out w8 b8))
    obtain ⟨w10, hw10, f1, f2, f3, f4, f5⟩ := FIN.out
    rw [hw10]
    clear hS8 st3 hS9 st4 hS10 FIN hw10
    go_wp2_with fail
    refine bodyPost_ret (results_DS rfl _ _ W.heap.size (W.heap.size + 1) _ _ rfl rfl rfl f1 rfl f2) rfl ?_
    have js := HP.out.1.js
    exact ⟨live, gen, first, base, bs, x, _, _, _, rfl, f3, f4, f5, HP.out.2.2.1, HP.out.2.2.2, ⟨js.lv1, js.g1, js.g2, js.f1, js.f2, js.gb, js.gs, js.fit, by have := HP.out.1.q4; omega, HP.out.1.q6, hne.out, by have := HP.out.1.q2; omega⟩⟩
  · go_enter Tryd.func11, Tryd.ntmps11
    go_upto_region 3 with fail
    clear k1 k2
    try rw [hX]
    clear hX
    go_wp2_with fail
    refine CL.mono ?_
    rintro e w2 ⟨lo, j, v, cv, bv, rfl, hLv⟩
    clear CL hrA q2
    letI := hJ j
    obtain ⟨live, gen, first, n, base, bs, u0, u1, xs, rs, hP, hW, hrs, hne0⟩ := hLv
    obtain ⟨x, jn, fx, fo, by0, by1, l0, l1, hr⟩ := hP.js.files
    have CD := jn.disk
    have hne := mkHid (hne0 three (by omega) hnth.out)
    clear hne0 hnth
    obtain ⟨la, hla⟩ : ∃ la, first - 1 + bs.length = la := ⟨_, rfl⟩
    rw [hla] at hrs
    obtain ⟨Ln, hLn⟩ : ∃ Ln, (journalw gen first base bs).length = Ln := ⟨_, rfl⟩
    obtain ⟨M, hM⟩ : ∃ M, m + 1 = M := ⟨_, rfl⟩
    rw [hM] at hP hW hrs
    rw [hM]
    have hM26 : M ≤ 26 := by omega
    clear hM
    obtain ⟨gb, nb, rfl, hgb, hbc⟩ : ∃ gb nb, bv = .slice (some ⟨gb, 0, none⟩) (M + 1) nb ∧ w1.heap.size ≤ gb ∧ ∀ k u, ([u0, u1, .int .i64 (la : Int)] : List Value)[k]? = some u → w2.cell? ⟨gb, M * 3 + k, none⟩ = some u := by
      rcases hW.ob.2 with ⟨_, h⟩ | ⟨gb, nb, cur, rfl, hg0, hg, _, _, _, h8⟩
      · omega
      · refine ⟨gb, nb, rfl, by omega, fun k u hu => ?_⟩
        have hk : k < 3 := by have := (List.getElem?_eq_some_iff.1 hu).1; simpa using this
        rw [← hrs, List.getElem?_drop, ← h8, List.getElem?_take, if_pos (by omega), Array.getElem?_toList] at hu
        exact (cell_of_row _ _ _ _ _ _ hg).trans hu
    obtain ⟨y0, z0, ey0⟩ := hP.b0.sl
    obtain ⟨y1, z1, ey1⟩ := hP.b1.sl
    subst ey0 ey1
    have HP := mkHid (And.intro hP (And.intro hW.bel (And.intro fx fo)))
    have HX := mkHid (And.intro by0 (And.intro by1 (And.intro l0 (And.intro l1 hr))))
    replace hbc := mkHid hbc
    clear hP hW hrs jn fx fo by0 by1 l0 l1 hr
    go_wp2_with fail
    refine CD.mono ?_
    rintro e w3 ⟨c, rfl, g0, g1, rfl, d0, d1, z2, z3, d01, b3⟩
    clear CD
    unfold dkA
    have st1 := st_Dn w3 (dkA g0 x.1.1.length g1 x.2.1.length) rfl (by simp [dkA, Value.oneCell'])
    unfold dkA at st1
    obtain ⟨n0, hn0⟩ : ∃ n0, x.1.1.length = n0 := ⟨_, rfl⟩
    obtain ⟨n1, hn1⟩ : ∃ n1, x.2.1.length = n1 := ⟨_, rfl⟩
    rw [hn0, hn1] at st1
    rw [hn0, hn1]
    obtain ⟨w4, hw4⟩ : ∃ w4, w3.alloc (.cells #[.slice (some ⟨g0, 0, none⟩) n0 n0, .slice (some ⟨g1, 0, none⟩) n1 n1] 26) = w4 := ⟨_, rfl⟩
    have b4 : Below w3.heap.size w3 w4 := by rw [← hw4]; exact (Below.refl _ w3).alloc (Nat.le_refl _) _
    have r9 : w4.heap[w3.heap.size]? = some (.cells #[.slice (some ⟨g0, 0, none⟩) n0 n0, .slice (some ⟨g1, 0, none⟩) n1 n1] 26 (0, 0)) := by rw [← hw4]; exact heap_alloc_new _ _
    rw [hw4] at st1
    have d0b := (b4.block _ (Array.getElem?_eq_some_iff.1 d0).1).trans d0
    have d1b := (b4.block _ (Array.getElem?_eq_some_iff.1 d1).1).trans d1
    have hlM : ∀ a, a ≤ 67108864 → a ≤ maxLen ∧ a ≤ Go.Proofs.YtfimaflglnemdaaDoor.LIM := fun a h => ⟨by unfold maxLen; omega, by unfold Go.Proofs.YtfimaflglnemdaaDoor.LIM; omega⟩
    have C8 := diskOf_any w4 (bl_row d0b HX.out.1 (hlM _ HX.out.2.2.1).1) (bl_row d1b HX.out.2.1 (hlM _ HX.out.2.2.2.1).1) (hlM _ HX.out.2.2.1).2 (hlM _ HX.out.2.2.2.1).2
    rw [hn0, hn1] at C8
    have bY : Below W.heap.size W w2 := HB.out.2.2.2.2.2.2.1.trans (HP.out.2.1.mono HB.out.2.2.2.2.2.2.1.size)
    have b24 : Below w2.heap.size w2 w4 := b3.trans (b4.mono b3.size)
    obtain ⟨k9, hk9⟩ : ∃ k9, w3.heap.size = k9 := ⟨_, rfl⟩
    rw [hk9] at r9 st1
    have c90 : w4.cell? ⟨k9, 0, none⟩ = some (.slice (some ⟨g0, 0, none⟩) n0 n0) := (cell_of_row _ _ _ _ _ _ r9).trans rfl
    have c91 : w4.cell? ⟨k9, 1, none⟩ = some (.slice (some ⟨g1, 0, none⟩) n1 n1) := (cell_of_row _ _ _ _ _ _ r9).trans rfl
    have HD := mkHid (And.intro d0b (And.intro d1b (And.intro z2 (And.intro z3 (And.intro d01 (And.intro b24 (And.intro bY r9)))))))
    have b23 := mkHid b3
    have HN := mkHid (And.intro hn0 (And.intro hn1 (And.intro hLn (And.intro hk9 hla))))
    clear d0 d1 z2 z3 d01 b3 hw4 b4 r9 d0b d1b hlM bY b24 hn0 hn1 hLn hla
    go_wp2_with fail
    refine C8.mono ?_
    rintro e w5 ⟨o2, o3, c2, c3, rfl, e0, e1, b5⟩
    clear C8 st1 hk9
    have b24 := HD.out.2.2.2.2.2.1
    have b25 : Below w2.heap.size w2 w5 := b24.trans (b5.mono b24.size)
    have b15 : Below w1.heap.size w1 w5 := HP.out.2.1.trans (b25.mono HP.out.2.1.size)
    have hT1 := HB.out.2.2.2.2.2.2.2
    have C9 := replay_story w5 e0 e1 (hT1.below b15 hT1.sz) HX.out.2.2.2.2
    dsimp only at C9
    rw [HN.out.2.2.1] at C9
    have c90b := cell_below b5 c90
    have c91b := cell_below b5 c91
    have r9b := (b5.block _ (Array.getElem?_eq_some_iff.1 HD.out.2.2.2.2.2.2.2).1).trans HD.out.2.2.2.2.2.2.2
    have HE := mkHid (And.intro b5 (And.intro b25 (And.intro b15 r9b)))
    clear e0 e1 b5 b24 b25 b15 hT1 c90 c91 r9b
    go_wp2_with fail
    refine C9.mono ?_
    rintro e w6 ⟨t4, t5, rfl, k4, k5, b6⟩
    clear C9
    obtain ⟨p4, q4, et4⟩ := k4.sl
    obtain ⟨p5, q5, et5⟩ := k5.sl
    subst et4 et5
    unfold styA
    have st2 := st_Sn w6 #[.int .i64 (live : Int), .int .i64 (Ln : Int), .int .i64 (gen : Int), .int .i64 (first : Int), .slice p4 base.length q4, .slice p5 bs.length q5] rfl (by simp [Value.oneCell'])
    obtain ⟨w7, hw7⟩ : ∃ w7, w6.alloc (.cells #[.int .i64 (live : Int), .int .i64 (Ln : Int), .int .i64 (gen : Int), .int .i64 (first : Int), .slice p4 base.length q4, .slice p5 bs.length q5] 47) = w7 := ⟨_, rfl⟩
    have b7 : Below w6.heap.size w6 w7 := by rw [← hw7]; exact (Below.refl _ w6).alloc (Nat.le_refl _) _
    have r10 : w7.heap[w6.heap.size]? = some (.cells #[.int .i64 (live : Int), .int .i64 (Ln : Int), .int .i64 (gen : Int), .int .i64 (first : Int), .slice p4 base.length q4, .slice p5 bs.length q5] 47 (0, 0)) := by rw [← hw7]; exact heap_alloc_new _ _
    rw [hw7] at st2
    clear hw7
    obtain ⟨k10, hk10⟩ : ∃ k10, w6.heap.size = k10 := ⟨_, rfl⟩
    rw [hk10] at r10 st2
    have b67 : Below w6.heap.size w6 w7.drew := b7.trans ((below_drew w7).mono b7.size)
    have b57 : Below w5.heap.size w5 w7.drew := b6.trans (b67.mono b6.size)
    have b27 : Below w2.heap.size w2 w7.drew := HE.out.2.1.trans (b57.mono HE.out.2.1.size)
    have s90 := cell_below b57 c90b
    have s91 := cell_below b57 c91b
    obtain ⟨gl, sL⟩ : ∃ gl, w7.drew.cell? ⟨k9, live, none⟩ = some (.slice (some ⟨gl, 0, none⟩) Ln Ln) := by
      have hlv := HP.out.1.js.lv1
      have e := HP.out.2.2.1
      obtain rfl | rfl : live = 0 ∨ live = 1 := by omega
      · refine ⟨g0, s90.trans ?_⟩
        rw [← HN.out.1, ← HN.out.2.2.1, ← e]
        rfl
      · refine ⟨g1, s91.trans ?_⟩
        rw [← HN.out.2.1, ← HN.out.2.2.1, ← e]
        rfl
    have rd10 : w7.drew.heap[k10]? = _ := r10
    have s100 : w7.drew.cell? ⟨k10, 0, none⟩ = some (.int .i64 (live : Int)) := (cell_of_row _ _ _ _ _ _ rd10).trans rfl
    have s101 : w7.drew.cell? ⟨k10, 1, none⟩ = some (.int .i64 (Ln : Int)) := (cell_of_row _ _ _ _ _ _ rd10).trans rfl
    have s102 : w7.drew.cell? ⟨k10, 2, none⟩ = some (.int .i64 (gen : Int)) := (cell_of_row _ _ _ _ _ _ rd10).trans rfl
    have s103 : w7.drew.cell? ⟨k10, 3, none⟩ = some (.int .i64 (first : Int)) := (cell_of_row _ _ _ _ _ _ rd10).trans rfl
    have s104 : w7.drew.cell? ⟨k10, 4, none⟩ = some (.slice p4 base.length q4) := (cell_of_row _ _ _ _ _ _ rd10).trans rfl
    have s105 : w7.drew.cell? ⟨k10, 5, none⟩ = some (.slice p5 bs.length q5) := (cell_of_row _ _ _ _ _ _ rd10).trans rfl
    have sb0 : w7.drew.cell? ⟨gb, M * 3, none⟩ = _ := cell_below b27 (hbc.out 0 _ rfl)
    have sb1 : w7.drew.cell? ⟨gb, M * 3 + 1, none⟩ = _ := cell_below b27 (hbc.out 1 _ rfl)
    have sb2 : w7.drew.cell? ⟨gb, M * 3 + 2, none⟩ = _ := cell_below b27 (hbc.out 2 _ rfl)
    have k4b := k4.keep (stay_below b67)
    have k5b := k5.keep (stay_below b67)
    have CH := holds_eq (i := live) (good := Ln) (gen := gen) w7.drew (HP.out.1.b0.keep (stay_below b27)) (HP.out.1.b1.keep (stay_below b27)) k4b k5b (by have := HP.out.1.js.gb.n; omega) (by have := HP.out.1.js.f2; omega) (fun x hx => by have := (HP.out.1.js.gs x hx).n; omega) HP.out.1.js.f1 (by have := HP.out.1.js.f2; omega) HN.out.2.2.2.2
    unfold bkA styA at CH
    replace CH := mkHid CH
    have hl0 : (0 : Int) ≤ (live : Int) := by omega
    have hM1 : IntKind.i64.wrap (M : Int) = (M : Int) := by rw [IntKind.wrap_i64]; omega
    have hM2 : IntKind.i64.wrap ((M : Int) + 1 - 1) = (M : Int) := by rw [IntKind.wrap_i64]; omega
    have hM3 : (0 : Int) ≤ (M : Int) := by omega
    have hM4 : (M : Int) < (M : Int) + 1 := by omega
    have hM5 : (M : Int) < ((M + 1 : Nat) : Int) := by omega
    have hl1 : (live : Int) < 2 := by have := HP.out.1.js.lv1; omega
    have hS7 : S9 k9 k10 gb live gl g0 g1 n0 n1 Ln gen first base.length bs.length M la p4 p5 y0 y1 q4 q5 z0 z1 w7.drew := ⟨s90, s91, sL, s100, s101, s102, s103, s104, s105, sb0, sb1, sb2⟩
    have HZ : Hid (∀ w8, Below w7.drew.heap.size w7.drew w8 → S9 k9 k10 gb live gl g0 g1 n0 n1 Ln gen first base.length bs.length M la p4 p5 y0 y1 q4 q5 z0 z1 w8 ∧
        (stD (.pointer (some ⟨W.heap.size, 0, none⟩)) (.agg #[.slice (some ⟨g0, 0, none⟩) n0 n0, .slice (some ⟨g1, 0, none⟩) n1 n1])).run Tryd.prog w8 = .ok () (w8.setRow W.heap.size #[.slice (some ⟨g0, 0, none⟩) n0 n0, .slice (some ⟨g1, 0, none⟩) n1 n1]) ∧
        S9 k9 k10 gb live gl g0 g1 n0 n1 Ln gen first base.length bs.length M la p4 p5 y0 y1 q4 q5 z0 z1 (w8.setRow W.heap.size #[.slice (some ⟨g0, 0, none⟩) n0 n0, .slice (some ⟨g1, 0, none⟩) n1 n1]) ∧
        (stSt (.pointer (some ⟨W.heap.size + 1, 0, none⟩)) (.agg #[.int .i64 (live : Int), .int .i64 (Ln : Int), .int .i64 (gen : Int), .int .i64 (first : Int), .slice p4 base.length q4, .slice p5 bs.length q5])).run Tryd.prog (w8.setRow W.heap.size #[.slice (some ⟨g0, 0, none⟩) n0 n0, .slice (some ⟨g1, 0, none⟩) n1 n1]) = .ok () ((w8.setRow W.heap.size #[.slice (some ⟨g0, 0, none⟩) n0 n0, .slice (some ⟨g1, 0, none⟩) n1 n1]).setRow (W.heap.size + 1) #[.int .i64 (live : Int), .int .i64 (Ln : Int), .int .i64 (gen : Int), .int .i64 (first : Int), .slice p4 base.length q4, .slice p5 bs.length q5]) ∧
        S9 k9 k10 gb live gl g0 g1 n0 n1 Ln gen first base.length bs.length M la p4 p5 y0 y1 q4 q5 z0 z1 ((w8.setRow W.heap.size #[.slice (some ⟨g0, 0, none⟩) n0 n0, .slice (some ⟨g1, 0, none⟩) n1 n1]).setRow (W.heap.size + 1) #[.int .i64 (live : Int), .int .i64 (Ln : Int), .int .i64 (gen : Int), .int .i64 (first : Int), .slice p4 base.length q4, .slice p5 bs.length q5]) ∧
        Hid (∃ w10, ((w8.setRow W.heap.size #[.slice (some ⟨g0, 0, none⟩) n0 n0, .slice (some ⟨g1, 0, none⟩) n1 n1]).setRow (W.heap.size + 1) #[.int .i64 (live : Int), .int .i64 (Ln : Int), .int .i64 (gen : Int), .int .i64 (first : Int), .slice p4 base.length q4, .slice p5 bs.length q5]) = w10 ∧ w10.heap[W.heap.size]? = some (.cells (dkA g0 x.1.1.length g1 x.2.1.length) 26 (0, 0)) ∧ w10.heap[W.heap.size + 1]? = some (.cells (styA live (journalw gen first base bs).length gen first (.slice p4 base.length q4) (.slice p5 bs.length q5)) 47 (0, 0)) ∧ DkP W x (dkA g0 x.1.1.length g1 x.2.1.length) w10 ∧ Ll W.heap.size w10 (.slice p4 base.length q4) base ∧ Lb W.heap.size w10 (.slice p5 bs.length q5) bs)) := by
      intro w8 b8
      have hb1 := HB.out.2.2.2.2.1.trans (HB.out.2.2.2.2.2.1.mono HB.out.2.2.2.2.1.size)
      have hb2 := hb1.trans (HP.out.2.1.mono hb1.size)
      have hb7 := hb2.trans (b27.mono hb2.size)
      have hb8 := hb7.trans (b8.mono hb7.size)
      have zX := HB.out.2.2.2.1
      have rx0 := (hb8.block _ (by omega)).trans HB.out.2.1
      have rx1 := (hb8.block _ (by omega)).trans HB.out.2.2.1
      have n9 : w2.heap.size ≤ k9 := by have := HD.out.2.2.2.2.2.1.size; have := HN.out.2.2.2.1; rw [← this]; exact b23.out.size
      have n10 : w2.heap.size ≤ k10 := by rw [← hk10]; exact Nat.le_trans HE.out.2.1.size b6.size
      have nW2 : W.heap.size + 2 ≤ w2.heap.size := by rw [← zX]; exact hb2.size
      have nW1 : W.heap.size + 2 ≤ w1.heap.size := by rw [← zX]; exact hb1.size
      have nW5 : W.heap.size + 2 ≤ w5.heap.size := Nat.le_trans nW2 HE.out.2.1.size
      have S8 := S9.below hS7 b8
      have rx1b : (w8.setRow W.heap.size #[.slice (some ⟨g0, 0, none⟩) n0 n0, .slice (some ⟨g1, 0, none⟩) n1 n1]).heap[W.heap.size + 1]? = some (.cells zS 47 (0, 0)) := (setRow_other _ _ _ _ (by omega)).trans rx1
      have S8b := S9.set S8 #[.slice (some ⟨g0, 0, none⟩) n0 n0, .slice (some ⟨g1, 0, none⟩) n1 n1] (k := W.heap.size) (by omega) (by omega) (by omega)
      refine ⟨S8, st_D w8 _ zD _ rfl rfl (by simp [Value.oneCell']) rx0, S8b, st_Sr _ _ zS _ rfl rfl (by simp [Value.oneCell']) rx1b, S9.set S8b _ (by omega) (by omega) (by omega), _, rfl, ?_, ?_, ?_, ?_, ?_⟩
      · rw [HN.out.1, HN.out.2.1]
        exact (setRow_other _ _ _ _ (by omega)).trans (setRow_heap _ _ _ _ _ _ rx0)
      · rw [HN.out.2.2.1]
        exact setRow_heap _ _ _ _ _ _ rx1b
      · have b48 := HE.out.1.trans ((b57.trans (b8.mono b57.size)).mono HE.out.1.size)
        have g0z := HD.out.2.2.1
        have g1z := HD.out.2.2.2.1
        refine ⟨g0, g1, rfl, (setRow_other _ _ _ _ (by omega)).trans ((setRow_other _ _ _ _ (by omega)).trans ((b48.block _ (Array.getElem?_eq_some_iff.1 HD.out.1).1).trans HD.out.1)), (setRow_other _ _ _ _ (by omega)).trans ((setRow_other _ _ _ _ (by omega)).trans ((b48.block _ (Array.getElem?_eq_some_iff.1 HD.out.2.1).1).trans HD.out.2.1)), by omega, by omega, HD.out.2.2.2.2.1, ?_⟩
        have bY := HD.out.2.2.2.2.2.2.1
        have q7 := bY.trans (b27.mono bY.size)
        have q8 := q7.trans (b8.mono q7.size)
        exact below_setRow (below_setRow q8 (Nat.le_refl _) _) (by omega) _
      · exact ((k4b.keep (stay_below b8)).keep (fun k c t hk _ _ => (setRow_other _ _ _ _ (by omega)).trans (setRow_other _ _ _ _ (by omega)))).mono (by omega)
      · exact ((k5b.keep (stay_below b8)).keep (fun k c t hk _ _ => (setRow_other _ _ _ _ (by omega)).trans (setRow_other _ _ _ _ (by omega)))).mono (by omega)
    have HF := mkHid (And.intro k4b (And.intro k5b (And.intro b57 b27)))
    clear k4 k5 k4b k5b b6 b7 r10 b67 b57 b27 c90b c91b rd10
    clear s90 s91 sL s100 s101 s102 s103 s104 s105 sb0 sb1 sb2
    go_upto_region 9 with fail
    clear hk10
    go_region_held3 (fun w' => S9 k9 k10 gb live gl g0 g1 n0 n1 Ln gen first base.length bs.length M la p4 p5 y0 y1 q4 q5 z0 z1 w') (first | assumption | exact hS7 | exact hS8 | exact hS9 | exact hS10)
      (first
        | (go_at_call 38; with_reducible refine Calls.mono CH.out ?_; rintro e w8 ⟨rfl, b8⟩; obtain ⟨hS8, st3, hS9, st4, hS10, FIN⟩ := HZ.out w8 b8))
    obtain ⟨w10, hw10, f1, f2, f3, f4, f5⟩ := FIN.out
    rw [hw10]
    clear hS8 st3 hS9 st4 hS10 FIN hw10
    go_wp2_with fail
    refine bodyPost_ret (results_DS rfl _ _ W.heap.size (W.heap.size + 1) _ _ rfl rfl rfl f1 rfl f2) rfl ?_
    have js := HP.out.1.js
    exact ⟨live, gen, first, base, bs, x, _, _, _, rfl, f3, f4, f5, HP.out.2.2.1, HP.out.2.2.2, ⟨js.lv1, js.g1, js.g2, js.f1, js.f2, js.gb, js.gs, js.fit, by have := HP.out.1.q4; omega, HP.out.1.q6, hne.out, by have := HP.out.1.q2; omega⟩⟩
end Dev
end Go.Proofs.YtfimaflglnemdaaDoor
