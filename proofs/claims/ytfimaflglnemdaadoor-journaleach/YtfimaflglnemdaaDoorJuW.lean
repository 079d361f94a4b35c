/- The journal's rows: the law's lived. -/
import Derived.Test.YtfimaflglnemdaaDoorJqG
namespace Go.Proofs.YtfimaflglnemdaaDoor
open Go.RowKit
open JM
set_option maxRecDepth 20000
namespace Dev
/-- A life, behind i steps. -/
def Lv (W : World) (lo j v i : Nat) (cv bv us : Value) (ss : List (Bool × List (List Nat))) (wr : World) : Prop :=
  ∃ live gen first n base bs u0 u1 xs rs, @Ply (hJ j) lo wr j v 4194367 W.heap.size i live gen first n base bs u0 u1 ∧ Lw W lo (i + 1) (i + 1) cv bv xs rs (bkA u0 u1 (first - 1 + bs.length)) (lifA us) wr ∧ rs.drop (i * 3) = [u0, u1, .int .i64 ((first - 1 + bs.length : Nat) : Int)] ∧ ∀ ls, 0 < i → ss[i - 1]? = some (false, ls) → bs ≠ []
attribute [local go_sem ↓] toStBk toApI toApK in
set_option maxRecDepth 100000 in
set_option maxHeartbeats 3200000 in
theorem lived_any {us : Value} {ss : List (Bool × List (List Nat))} (W : World) (hS : Ss W us ss) (hss : ss.length ≤ 26) (hT : Tc W) :
    Calls Tryd.prog 8 #[.agg #[.slice none 0 0, .slice none 0 0], .agg #[.slice none 0 0, .slice none 0 0, .int .i64 0], .agg (lifA us)] W fun e w' => ∃ lo j v cv bv, e = .returned (.tuple #[.pointer (some ⟨v, 0, none⟩), cv, bv, .bool true]) ∧ Lv W lo j v ss.length cv bv us ss w' := by
  obtain ⟨V, hV⟩ : ∃ V, ((W.alloc (.cells #[.slice none 0 0, .slice none 0 0] 26)).alloc (.cells #[.slice none 0 0, .slice none 0 0, .int .i64 0] 30)).alloc (.cells (lifA us) 36) = V := ⟨_, rfl⟩
  obtain ⟨r0, r1, r2, bV⟩ := row3 W (.cells #[.slice none 0 0, .slice none 0 0] 26) (.cells #[.slice none 0 0, .slice none 0 0, .int .i64 0] 30) (.cells (lifA us) 36)
  have zV : V.heap.size = W.heap.size + 3 := by rw [← hV]; simp
  rw [hV] at r0 r1 r2 bV
  obtain ⟨ou, cu, rfl⟩ := hS.sl
  have c0 : V.cell? ⟨W.heap.size, 0, none⟩ = some (.slice none 0 0) := (cell_of_row _ _ _ _ _ _ r0).trans rfl
  have c1 : V.cell? ⟨W.heap.size, 1, none⟩ = some (.slice none 0 0) := (cell_of_row _ _ _ _ _ _ r0).trans rfl
  have d0 : V.cell? ⟨W.heap.size + 1 + 1, 0, none⟩ = some (.int .i64 4194303) := (cell_of_row _ _ _ _ _ _ r2).trans rfl
  have hbit : bits BinOp.and IntKind.i64 4194303 4194303 = 4194303 := by kernel_rfl
  have C1 := diskOf_any V (bl_none V) (bl_none V) (Nat.zero_le _) (Nat.zero_le _)
  have HH := mkHid (And.intro r1 (And.intro r2 (And.intro bV (And.intro hS (And.intro hT zV)))))
  unfold lifA at hV
  unfold lifA
  clear r0 r1 r2 bV hS hT zV
  go_enter Tryd.func8, Tryd.ntmps8
  go_upto_region 1 with fail
  try rw [hV]
  clear hV
  go_wp2_with fail
  refine C1.mono ?_
  rintro e w1 ⟨o2, o3, c2, c3, rfl, k2, k3, b1⟩
  clear C1
  have C2 := new_any w1 _ _ _ _ k2 k3 (Nat.zero_le _) (Nat.zero_le _)
  simp only [List.length_nil] at C2
  have HK := mkHid b1
  clear k2 k3 b1
  simp only [List.length_nil]
  go_wp2_with fail
  refine C2.mono ?_
  rintro e w2 ⟨rfl, k4⟩
  clear C2
  obtain ⟨f, hD⟩ := @dv_of h0 _ _ _ k4 (Nat.zero_le _)
  have b2 : Below w1.heap.size w1 w2 := k4.1
  have bVW := HH.out.2.2.1
  have b12 : Below V.heap.size V w2 := HK.out.trans (b2.mono HK.out.size)
  have b02 : Below W.heap.size W w2 := bVW.trans (b12.mono bVW.size)
  have hT := HH.out.2.2.2.2.1
  have hlo : 0 < w1.heap.size := Nat.lt_of_lt_of_le hT.sz (Nat.le_trans bVW.size HK.out.size)
  have C3 := Open_new (lim := 4194367) hD rfl b2.size (by decide) (hT.below b02 hT.sz) hlo (by decide) (by decide)
  rw [show ((4194367 : Nat) : Int) = 4194367 from rfl] at C3
  have HK2 := mkHid (And.intro b12 (And.intro b02 hlo))
  obtain ⟨lo, hloE⟩ : ∃ lo, w1.heap.size = lo := ⟨_, rfl⟩
  obtain ⟨v, hvE⟩ : ∃ v, lo + 1 = v := ⟨_, rfl⟩
  rw [hloE, hvE] at C3
  rw [hloE] at HK2
  have HLO := mkHid (And.intro hloE hvE)
  rw [hloE, hvE]
  clear hD k4 b2 bVW b12 b02 hT hlo hloE hvE
  go_wp2_with fail
  refine C3.mono ?_
  rintro e w3 ⟨j, rfl, k5, fo3⟩
  clear C3
  letI := hJ j
  have foV : Fo lo V w3 := (Fo.of_below HK2.out.1).trans fo3
  have bel3 : Below W.heap.size W w3 := by
    have q := HK2.out.2.1
    have ql : W.heap.size ≤ lo := by rw [← HLO.out.1]; exact Nat.le_trans HH.out.2.2.1.size HK.out.size
    exact ⟨fo3.os.trans q.os, fo3.tape.trans q.tape, fo3.output.trans q.output, Nat.le_trans q.size fo3.size, fun k hk => (fo3.low k (by omega) (by have := q.size; omega)).trans (q.block k hk)⟩
  have hT3 : Tc w3 := HH.out.2.2.2.2.1.below bel3 HH.out.2.2.2.2.1.sz
  have hj : Js lo w3 j v 4194367 0 1 1 2 [] [] := by
    refine ⟨⟨_, k5, ?_, rfl⟩, ⟨by decide, fun x h => (by cases h)⟩, fun b h => (by cases h), by decide, by decide, by decide, by decide, ?_, by decide, by decide, hT3, HK2.out.2.2, by decide⟩
    · show basew 1 1 [] = journalw 1 1 [] []
      unfold journalw
      rw [batchesw, List.append_nil]
    · rw [journalw_len]
      decide
  have r1 := foV.row HH.out.1 (by decide) (by decide) (by decide)
  have r2 := foV.row HH.out.2.1 (by decide) (by decide) (by decide)
  have e2 : w3.drew.cell? ⟨W.heap.size + 1, 2, none⟩ = some (.int .i64 0) := (cell_of_row _ _ _ _ _ _ r1).trans rfl
  have CL : Hid (Calls Tryd.prog 17 #[.pointer (some ⟨j, 0, none⟩)] w3.drew fun e w' => e = .returned (.int .i64 0) ∧ w' = w3.drew) := (hj.below (below_drew w3)).last
  have hP : Ply lo w3 j v 4194367 W.heap.size 0 0 1 1 2 [] [] (.slice none 0 0) (.slice none 0 0) := ⟨hj, Ll.nil _ _, Lb.nil _ _, by decide, by decide, by decide, by rw [journalw_len]; decide, fun b h => (by cases h)⟩
  have HP := mkHid (And.intro hP (And.intro r1 (And.intro r2 bel3)))
  clear hP hj r1 r2 bel3 hT3 foV k5 fo3
  go_upto_region 4 with fail
  go_region_held3 (fun w' => w'.cell? ⟨W.heap.size + 1, 2, none⟩ = some (.int .i64 0)) (first | assumption | exact e2)
    (first
      | (go_at_call 17; with_reducible refine Calls.mono CL.out ?_; rintro e w4 ⟨rfl, hw4⟩; subst hw4))
  clear CL
  have bd := below_drew w3
  have P4 := HP.out.1.below bd
  have C4 := P4.js.count
  have r1 := (bd.block _ (Array.getElem?_eq_some_iff.1 HP.out.2.1).1).trans HP.out.2.1
  have bW4 := HP.out.2.2.2.trans (bd.mono HP.out.2.2.2.size)
  have r2 := (bd.block _ (Array.getElem?_eq_some_iff.1 HP.out.2.2.1).1).trans HP.out.2.2.1
  obtain ⟨w4, hw4⟩ : ∃ w4, w3.drew = w4 := ⟨_, rfl⟩
  rw [hw4] at C4 r1 r2 P4 bd bW4
  rw [hw4]
  clear hw4 e2
  obtain ⟨A1, hA1⟩ : ∃ A, w4.alloc (.cells #[.int .i64 2] 3) = A := ⟨_, rfl⟩
  have bA1 : Below w4.heap.size w4 A1 := by rw [← hA1]; exact (Below.refl _ w4).alloc (Nat.le_refl _) _
  have rA1 : A1.heap[w4.heap.size]? = some (.cells #[.int .i64 2] 3 (0, 0)) := by rw [← hA1]; exact heap_alloc_new _ _
  obtain ⟨A2, hA2⟩ : ∃ A, A1.alloc (.cells #[.slice none 0 0, .slice none 0 0, .int .i64 0] 30) = A := ⟨_, rfl⟩
  have bA2 : Below A1.heap.size A1 A2 := by rw [← hA2]; exact (Below.refl _ A1).alloc (Nat.le_refl _) _
  have rA2 : A2.heap[A1.heap.size]? = some (.cells #[.slice none 0 0, .slice none 0 0, .int .i64 0] 30 (0, 0)) := by rw [← hA2]; exact heap_alloc_new _ _
  have rr1 := (bA1.block _ (Array.getElem?_eq_some_iff.1 r1).1).trans r1
  have f0 : A1.cell? ⟨W.heap.size + 1, 0, none⟩ = some (.slice none 0 0) := (cell_of_row _ _ _ _ _ _ rr1).trans rfl
  have f1 : A1.cell? ⟨W.heap.size + 1, 1, none⟩ = some (.slice none 0 0) := (cell_of_row _ _ _ _ _ _ rr1).trans rfl
  have f2 : A1.cell? ⟨W.heap.size + 1, 2, none⟩ = some (.int .i64 0) := (cell_of_row _ _ _ _ _ _ rr1).trans rfl
  have b42 : Below w4.heap.size w4 A2 := bA1.trans (bA2.mono bA1.size)
  have hl3 : W.heap.size + 3 ≤ lo := by rw [← HLO.out.1, ← HH.out.2.2.2.2.2]; exact HK.out.size
  have hl4 : lo ≤ w4.heap.size := P4.js.hlo
  have LV : Hid (Lv W lo j v 0 (.slice (some ⟨w4.heap.size, 0, none⟩) 1 1) (.slice (some ⟨A1.heap.size, 0, none⟩) 1 1) (.slice ou ss.length cu) ss A2) := by
    refine ⟨0, 1, 1, 2, [], [], .slice none 0 0, .slice none 0 0, [.int .i64 2], [.slice none 0 0, .slice none 0 0, .int .i64 0], P4.below b42, ⟨(b42.block _ (Array.getElem?_eq_some_iff.1 r1).1).trans r1, (b42.block _ (Array.getElem?_eq_some_iff.1 r2).1).trans r2, bW4.trans (b42.mono bW4.size), ?_, ?_, ⟨_, rfl, nu_int _⟩, ⟨_, rfl, nu_slice _ _ _⟩, ⟨_, rfl, nu_slice _ _ _⟩, hl3, Nat.le_trans hl4 b42.size⟩, rfl, fun ls h => absurd h (by omega)⟩
    · exact ⟨rfl, .inr ⟨w4.heap.size, 1, _, rfl, by omega, (bA2.block _ (Array.getElem?_eq_some_iff.1 rA1).1).trans rA1, Nat.le_refl _, by unfold maxLen; omega, rfl, rfl⟩⟩
    · exact ⟨rfl, .inr ⟨A1.heap.size, 1, _, rfl, by have := bA1.size; omega, rA2, Nat.le_refl _, by unfold maxLen; omega, rfl, rfl⟩⟩
  clear bA1 rA1 bA2 rA2 rr1 b42 r1 r2 bW4 P4 bd hl4 HK2
  replace hl3 := mkHid hl3
  go_wp2_with fail
  refine C4.mono ?_
  rintro e w5 ⟨rfl, hw5⟩
  subst hw5
  clear C4
  go_wp2_with fail
  try rw [hA2]
  go_loopw [18, 16, 17] (fun iv cv bv wr => ∃ (i : Nat) (a1 a2 : Option Addr) (n1 n2 : Nat), iv = .int .i64 (i : Int) ∧ cv = .slice a1 (i + 1) n1 ∧ bv = .slice a2 (i + 1) n2 ∧ i ≤ ss.length ∧ Hid (Lv W lo j v i cv bv (.slice ou ss.length cu) ss wr)) (fun iv _ _ _ => ss.length - (intOf iv).toNat)
  case atStart => exact ⟨0, _, _, _, _, rfl, rfl, rfl, Nat.zero_le _, LV⟩
  case round =>
    obtain ⟨i, a1, a2, n1, n2, rfl, rfl, rfl, hi, HI⟩ := hrel
    obtain ⟨live, gen, first, n, base, bs, u0, u1, xs, rs, hP, hW, hrs, -⟩ := HI.out
    obtain ⟨p0, q0, hu0⟩ := hP.b0.sl
    obtain ⟨p1, q1, hu1⟩ := hP.b1.sl
    subst hu0 hu1
    obtain ⟨last, hlast⟩ : ∃ last, first - 1 + bs.length = last := ⟨_, rfl⟩
    rw [hlast] at hW hrs
    unfold bkA at hW
    have cL : wr.cell? ⟨W.heap.size + 1 + 1, 1, none⟩ = some (.slice ou ss.length cu) := (cell_of_row _ _ _ _ _ _ hW.rl).trans rfl
    by_cases hlt : i < ss.length
    · have hlt2 : (i : Int) < (ss.length : Int) := by omega
      have hi30 : (i : Int) < 30 := by omega
      have hi0 : (0 : Int) ≤ (i : Int) := by omega
      obtain ⟨oa, cap, e0, -, -, h4⟩ := HH.out.2.2.2.1
      injection e0 with e0 el ec
      clear el
      subst e0 ec
      obtain ⟨g, o, x, rfl, y1, y2, y3, y4⟩ := h4 i hlt
      obtain ⟨ox, cx, rfl⟩ := y3.sl
      obtain ⟨c, hc⟩ : ∃ c, ss[i].1 = c := ⟨_, rfl⟩
      rw [hc] at y1
      have hcc : ∀ ls, ss[i + 1 - 1]? = some (false, ls) → c = false := fun ls h => by
        rw [Nat.add_sub_cancel, List.getElem?_eq_getElem hlt] at h
        injection h with h
        rw [← hc, h]
      replace hcc := mkHid hcc
      have CA := mkHid (fun X hX => does_step (X := X) hP hW hlast.symm hX (by omega) y1 y2 y3 y4)
      have bz : Below wr.heap.size wr (wr.alloc (.cells #[.slice none 0 0, .slice none 0 0, .int .i64 0] 30)).drew := by
        have q := (Below.refl _ wr).alloc (Nat.le_refl _) (.cells #[.slice none 0 0, .slice none 0 0, .int .i64 0] 30)
        exact q.trans ((below_drew _).mono q.size)
      have hSd := S11.of (hW.below (below_drew wr)) y1 y2
      have hSa := S11.of (hW.below bz) y1 y2
      have HY := mkHid (And.intro hW (And.intro y1 (And.intro y2 (And.intro HH.out.2.2.2.2.1 hrs))))
      have Cb := mkHid (CA.out _ (below_drew wr))
      have Ca := mkHid (CA.out _ bz)
      have kz := mkHid (show (wr.alloc (.cells #[.slice none 0 0, .slice none 0 0, .int .i64 0] 30)).drew.heap[wr.heap.size]? = some (.cells zBk 30 (0, 0)) from heap_alloc_new _ _)
      clear hP hW y1 y2 y3 y4 h4 hrs CA hc bz hlast
      obtain ⟨nx, hnx⟩ : ∃ nx, ss[i].2.length = nx := ⟨_, rfl⟩
      rw [hnx] at Cb Ca hSd hSa HY
      clear hnx
      go_upto_region 11 with fail
      go_region_held3 (fun w' => S11 W (.slice p0 base.length q0) (.slice p1 bs.length q1) (.int .i64 (last : Int)) (.slice (some ⟨g, o, none⟩) ss.length cu) g (o + i * 2) c (.slice ox nx cx) w') (first | assumption | exact hSd | exact hSa | exact hSx | exact hSy)
        (first
          | (go_at_call 37; with_reducible refine Calls.mono Ca.out ?_; rintro e w6 ⟨live', gen', first', n', base', bs', v0, v1, last', rfl, k6, s6⟩; obtain ⟨st1, hN⟩ := nxtA HY.out.2.2.2.1 HY.out.1 kz.out (Nat.le_refl _) k6.out; have hSx := S11.of hN.lw HY.out.2.1 HY.out.2.2.1; replace hN := mkHid hN)
          | (go_at_call 37; with_reducible refine Calls.mono Cb.out ?_; rintro e w6 ⟨live', gen', first', n', base', bs', v0, v1, last', rfl, k6, s6⟩; obtain ⟨st1, hN, hLa⟩ := nxtB k6.out; have hSx := S11.of hN.lw HY.out.2.1 HY.out.2.2.1; have hSy := S11.of hLa HY.out.2.1 HY.out.2.2.1; replace hN := mkHid hN; clear hLa))
      · obtain ⟨k, hk⟩ : ∃ k, w6.heap.size = k := ⟨_, rfl⟩
        obtain ⟨Y, hY⟩ : ∃ Y, w6.alloc (.cells #[v0, v1, .int .i64 (last' : Int)] 30) = Y := ⟨_, rfl⟩
        rw [hk, hY] at hN
        rw [hk, hY]
        clear st1 hSx hSy k6 s6 hk hY
        obtain ⟨r0, s0, ev0⟩ := hN.out.ply.b0.sl
        obtain ⟨r1, s1, ev1⟩ := hN.out.ply.b1.sl
        subst ev0 ev1
        have bD := below_drew Y
        have P2 := hN.out.ply.below bD
        have rk := (bD.block _ (Array.getElem?_eq_some_iff.1 hN.out.row).1).trans hN.out.row
        have g0 : Y.drew.cell? ⟨k, 0, none⟩ = some (.slice r0 base'.length s0) := (cell_of_row _ _ _ _ _ _ rk).trans rfl
        have g1 : Y.drew.cell? ⟨k, 1, none⟩ = some (.slice r1 bs'.length s1) := (cell_of_row _ _ _ _ _ _ rk).trans rfl
        have g2 : Y.drew.cell? ⟨k, 2, none⟩ = some (.int .i64 (last' : Int)) := (cell_of_row _ _ _ _ _ _ rk).trans rfl
        have CL := P2.js.last
        have CS := mkHid P2.js.story
        rw [← hN.out.hl] at CL
        replace CL := mkHid CL
        have Hq : ∀ w7 t4 t5, (Ll Y.drew.heap.size w7 t4 base' ∧ Lb Y.drew.heap.size w7 t5 bs' ∧ Below Y.drew.heap.size Y.drew w7) → Calls Tryd.prog 38 #[.agg #[.slice r0 base'.length s0, .slice r1 bs'.length s1, .int .i64 (last' : Int)], .agg (styA live' (journalw gen' first' base' bs').length gen' first' t4 t5)] w7 (fun e w' => e = .returned (.bool true) ∧ Below w7.heap.size w7 w') := fun w7 t4 t5 q => by
          have q2 := P2.q2
          have f1 := P2.js.f1
          have f2 := P2.js.f2
          refine holds_eq w7 (P2.b0.keep (stay_below q.2.2)) (P2.b1.keep (stay_below q.2.2)) q.1 q.2.1 ?_ (by omega) (fun x hx => ?_) f1 (by omega) hN.out.hl.symm
          · have := P2.js.gb.n
            omega
          · have := (P2.js.gs x hx).n
            omega
        replace Hq := mkHid Hq
        have HN2 := mkHid (And.intro P2 (And.intro (hN.out.lw.below bD) (And.intro rk (And.intro hN.out.hl hN.out.ne))))
        clear hN bD P2 rk Ca Cb hSd hSa kz
        go_upto_region 12 with fail
        go_region_held3 (fun w' => w'.cell? ⟨k, 0, none⟩ = some (.slice r0 base'.length s0) ∧ w'.cell? ⟨k, 1, none⟩ = some (.slice r1 bs'.length s1) ∧ w'.cell? ⟨k, 2, none⟩ = some (.int .i64 (last' : Int))) (first | assumption | exact ⟨g0, g1, g2⟩ | exact hS7 | exact hS8)
          (first
            | (go_at_call 17; with_reducible refine Calls.mono CL.out ?_; rintro e w7 ⟨rfl, hw7⟩; subst hw7)
            | (go_at_call 20; with_reducible refine Calls.mono CS.out ?_; rintro e w7 ⟨t4, t5, rfl, k4, k5, b7⟩; have hS7 := And.intro (cell_below b7 g0) (And.intro (cell_below b7 g1) (cell_below b7 g2)); replace k4 := mkHid (And.intro k4 (And.intro k5 b7)); clear k5 b7; have CHo := mkHid (Hq.out w7 t4 t5 k4.out))
            | (go_at_call 38; with_reducible refine Calls.mono CHo.out ?_; rintro e w8 ⟨rfl, b8⟩; have hS8 := And.intro (cell_below b8 hS7.1) (And.intro (cell_below b8 hS7.2.1) (cell_below b8 hS7.2.2)); replace b8 := mkHid b8))
        have bY8 := k4.out.2.2.trans (b8.out.mono k4.out.2.2.size)
        have P3 := HN2.out.1.below bY8
        have L3 := HN2.out.2.1.below bY8
        have hT := HY.out.2.2.2.1
        obtain ⟨m0, m1, m2⟩ := hS8
        have st := st_Bk w8 (W.heap.size + 1) _ #[.slice r0 base'.length s0, .slice r1 bs'.length s1, .int .i64 (last' : Int)] rfl rfl (by simp [Value.oneCell']) L3.rb
        have L4 := L3.setR #[.slice r0 base'.length s0, .slice r1 bs'.length s1, .int .i64 (last' : Int)] ⟨_, rfl, nu_slice _ _ _⟩
        have P4 := P3.free (L3.freR #[.slice r0 base'.length s0, .slice r1 bs'.length s1, .int .i64 (last' : Int)]) (hT.below L4.bel hT.sz) (fun i c t _ ht hc => setRow_other _ _ _ _ (row_ne hc L3.rb (by rcases ht with rfl | rfl | rfl <;> decide)))
        obtain ⟨w9, hw9⟩ : ∃ w9, w8.setRow (W.heap.size + 1) #[.slice r0 base'.length s0, .slice r1 bs'.length s1, .int .i64 (last' : Int)] = w9 := ⟨_, rfl⟩
        rw [hw9] at st L4 P4
        have C5 := P4.js.count
        have hz9 : W.heap.size + 3 ≤ w9.heap.size := Nat.le_trans L4.lo3 L4.sz
        obtain ⟨ga, gc, w11, hrA, hoA, hgA⟩ := own_addI L4.oc hz9 (by omega) ((n' : Nat) : Int)
        obtain ⟨L5, F5, S5⟩ := L4.addC hoA hgA
        have P5 := P4.free F5 (hT.below L5.bel hT.sz) (S5 _)
        have d0 : w11.cell? ⟨W.heap.size + 1, 0, none⟩ = some (.slice r0 base'.length s0) := (cell_of_row _ _ _ _ _ _ L5.rb).trans rfl
        have d1 : w11.cell? ⟨W.heap.size + 1, 1, none⟩ = some (.slice r1 bs'.length s1) := (cell_of_row _ _ _ _ _ _ L5.rb).trans rfl
        have d2 : w11.cell? ⟨W.heap.size + 1, 2, none⟩ = some (.int .i64 (last' : Int)) := (cell_of_row _ _ _ _ _ _ L5.rb).trans rfl
        have hz11 : W.heap.size + 3 ≤ w11.heap.size := Nat.le_trans L5.lo3 L5.sz
        obtain ⟨gb, gd, w12, hrB, hoB, hgB⟩ := own_addK L5.ob hz11 (by omega) (.slice r0 base'.length s0) (.slice r1 bs'.length s1) (.int .i64 (last' : Int)) rfl rfl rfl
        obtain ⟨L6, F6, S6⟩ := L5.addB hoB hgB
        have P6 := P5.free F6 (hT.below L6.bel hT.sz) (S6 _)
        have hll := HN2.out.2.2.2.1
        have hne := HN2.out.2.2.2.2
        have hlen := L5.ob.1
        have LV2 : Hid (Lv W lo j v (i + 1) (.slice ga (i + 1 + 1) gc) (.slice gb (i + 1 + 1) gd) (.slice (some ⟨g, o, none⟩) ss.length cu) ss w12) := by
          refine ⟨_, _, _, _, _, _, _, _, _, _, P6, by rw [← hll]; exact L6, ?_, fun ls _ h => hne (hcc.out ls h)⟩
          rw [← hll, List.drop_append_of_le_length (by omega), List.drop_of_length_le (by omega)]
          rfl
        clear P3 L3 L4 P4 L5 F5 S5 P5 L6 F6 S6 P6 hoA hgA hoB hgB hll hne hlen hw9 bY8 hT HN2 hz9 hz11 HY CL CS Hq CHo k4 b8 hS7
        go_wp2_with fail
        refine C5.mono ?_
        rintro e w10 ⟨rfl, hw10⟩
        subst hw10
        clear C5
        go_wp2_with fail
        exact ⟨⟨i + 1, _, _, _, _, by simp, rfl, rfl, by omega, LV2⟩, by simp only [intOf]; omega⟩
      · obtain ⟨k, hk⟩ : ∃ k, wr.heap.size = k := ⟨_, rfl⟩
        rw [hk] at hN
        rw [hk]
        obtain ⟨Y, hY⟩ : ∃ Y, w6.setRow k #[v0, v1, .int .i64 (last' : Int)] = Y := ⟨_, rfl⟩
        rw [hY] at hN
        rw [hY]
        clear st1 hSx k6 s6 hk hY
        obtain ⟨r0, s0, ev0⟩ := hN.out.ply.b0.sl
        obtain ⟨r1, s1, ev1⟩ := hN.out.ply.b1.sl
        subst ev0 ev1
        have bD := below_drew Y
        have P2 := hN.out.ply.below bD
        have rk := (bD.block _ (Array.getElem?_eq_some_iff.1 hN.out.row).1).trans hN.out.row
        have g0 : Y.drew.cell? ⟨k, 0, none⟩ = some (.slice r0 base'.length s0) := (cell_of_row _ _ _ _ _ _ rk).trans rfl
        have g1 : Y.drew.cell? ⟨k, 1, none⟩ = some (.slice r1 bs'.length s1) := (cell_of_row _ _ _ _ _ _ rk).trans rfl
        have g2 : Y.drew.cell? ⟨k, 2, none⟩ = some (.int .i64 (last' : Int)) := (cell_of_row _ _ _ _ _ _ rk).trans rfl
        have CL := P2.js.last
        have CS := mkHid P2.js.story
        rw [← hN.out.hl] at CL
        replace CL := mkHid CL
        have Hq : ∀ w7 t4 t5, (Ll Y.drew.heap.size w7 t4 base' ∧ Lb Y.drew.heap.size w7 t5 bs' ∧ Below Y.drew.heap.size Y.drew w7) → Calls Tryd.prog 38 #[.agg #[.slice r0 base'.length s0, .slice r1 bs'.length s1, .int .i64 (last' : Int)], .agg (styA live' (journalw gen' first' base' bs').length gen' first' t4 t5)] w7 (fun e w' => e = .returned (.bool true) ∧ Below w7.heap.size w7 w') := fun w7 t4 t5 q => by
          have q2 := P2.q2
          have f1 := P2.js.f1
          have f2 := P2.js.f2
          refine holds_eq w7 (P2.b0.keep (stay_below q.2.2)) (P2.b1.keep (stay_below q.2.2)) q.1 q.2.1 ?_ (by omega) (fun x hx => ?_) f1 (by omega) hN.out.hl.symm
          · have := P2.js.gb.n
            omega
          · have := (P2.js.gs x hx).n
            omega
        replace Hq := mkHid Hq
        have HN2 := mkHid (And.intro P2 (And.intro (hN.out.lw.below bD) (And.intro rk (And.intro hN.out.hl hN.out.ne))))
        clear hN bD P2 rk Ca Cb hSd hSa kz
        go_upto_region 12 with fail
        go_region_held3 (fun w' => w'.cell? ⟨k, 0, none⟩ = some (.slice r0 base'.length s0) ∧ w'.cell? ⟨k, 1, none⟩ = some (.slice r1 bs'.length s1) ∧ w'.cell? ⟨k, 2, none⟩ = some (.int .i64 (last' : Int))) (first | assumption | exact ⟨g0, g1, g2⟩ | exact hS7 | exact hS8)
          (first
            | (go_at_call 17; with_reducible refine Calls.mono CL.out ?_; rintro e w7 ⟨rfl, hw7⟩; subst hw7)
            | (go_at_call 20; with_reducible refine Calls.mono CS.out ?_; rintro e w7 ⟨t4, t5, rfl, k4, k5, b7⟩; have hS7 := And.intro (cell_below b7 g0) (And.intro (cell_below b7 g1) (cell_below b7 g2)); replace k4 := mkHid (And.intro k4 (And.intro k5 b7)); clear k5 b7; have CHo := mkHid (Hq.out w7 t4 t5 k4.out))
            | (go_at_call 38; with_reducible refine Calls.mono CHo.out ?_; rintro e w8 ⟨rfl, b8⟩; have hS8 := And.intro (cell_below b8 hS7.1) (And.intro (cell_below b8 hS7.2.1) (cell_below b8 hS7.2.2)); replace b8 := mkHid b8))
        have bY8 := k4.out.2.2.trans (b8.out.mono k4.out.2.2.size)
        have P3 := HN2.out.1.below bY8
        have L3 := HN2.out.2.1.below bY8
        have hT := HY.out.2.2.2.1
        obtain ⟨m0, m1, m2⟩ := hS8
        have st := st_Bk w8 (W.heap.size + 1) _ #[.slice r0 base'.length s0, .slice r1 bs'.length s1, .int .i64 (last' : Int)] rfl rfl (by simp [Value.oneCell']) L3.rb
        have L4 := L3.setR #[.slice r0 base'.length s0, .slice r1 bs'.length s1, .int .i64 (last' : Int)] ⟨_, rfl, nu_slice _ _ _⟩
        have P4 := P3.free (L3.freR #[.slice r0 base'.length s0, .slice r1 bs'.length s1, .int .i64 (last' : Int)]) (hT.below L4.bel hT.sz) (fun i c t _ ht hc => setRow_other _ _ _ _ (row_ne hc L3.rb (by rcases ht with rfl | rfl | rfl <;> decide)))
        obtain ⟨w9, hw9⟩ : ∃ w9, w8.setRow (W.heap.size + 1) #[.slice r0 base'.length s0, .slice r1 bs'.length s1, .int .i64 (last' : Int)] = w9 := ⟨_, rfl⟩
        rw [hw9] at st L4 P4
        have C5 := P4.js.count
        have hz9 : W.heap.size + 3 ≤ w9.heap.size := Nat.le_trans L4.lo3 L4.sz
        obtain ⟨ga, gc, w11, hrA, hoA, hgA⟩ := own_addI L4.oc hz9 (by omega) ((n' : Nat) : Int)
        obtain ⟨L5, F5, S5⟩ := L4.addC hoA hgA
        have P5 := P4.free F5 (hT.below L5.bel hT.sz) (S5 _)
        have d0 : w11.cell? ⟨W.heap.size + 1, 0, none⟩ = some (.slice r0 base'.length s0) := (cell_of_row _ _ _ _ _ _ L5.rb).trans rfl
        have d1 : w11.cell? ⟨W.heap.size + 1, 1, none⟩ = some (.slice r1 bs'.length s1) := (cell_of_row _ _ _ _ _ _ L5.rb).trans rfl
        have d2 : w11.cell? ⟨W.heap.size + 1, 2, none⟩ = some (.int .i64 (last' : Int)) := (cell_of_row _ _ _ _ _ _ L5.rb).trans rfl
        have hz11 : W.heap.size + 3 ≤ w11.heap.size := Nat.le_trans L5.lo3 L5.sz
        obtain ⟨gb, gd, w12, hrB, hoB, hgB⟩ := own_addK L5.ob hz11 (by omega) (.slice r0 base'.length s0) (.slice r1 bs'.length s1) (.int .i64 (last' : Int)) rfl rfl rfl
        obtain ⟨L6, F6, S6⟩ := L5.addB hoB hgB
        have P6 := P5.free F6 (hT.below L6.bel hT.sz) (S6 _)
        have hll := HN2.out.2.2.2.1
        have hne := HN2.out.2.2.2.2
        have hlen := L5.ob.1
        have LV2 : Hid (Lv W lo j v (i + 1) (.slice ga (i + 1 + 1) gc) (.slice gb (i + 1 + 1) gd) (.slice (some ⟨g, o, none⟩) ss.length cu) ss w12) := by
          refine ⟨_, _, _, _, _, _, _, _, _, _, P6, by rw [← hll]; exact L6, ?_, fun ls _ h => hne (hcc.out ls h)⟩
          rw [← hll, List.drop_append_of_le_length (by omega), List.drop_of_length_le (by omega)]
          rfl
        clear P3 L3 L4 P4 L5 F5 S5 P5 L6 F6 S6 P6 hoA hgA hoB hgB hll hne hlen hw9 bY8 hT HN2 hz9 hz11 HY CL CS Hq CHo k4 b8 hS7
        go_wp2_with fail
        refine C5.mono ?_
        rintro e w10 ⟨rfl, hw10⟩
        subst hw10
        clear C5
        go_wp2_with fail
        exact ⟨⟨i + 1, _, _, _, _, by simp, rfl, rfl, by omega, LV2⟩, by simp only [intOf]; omega⟩
    · have hlt2 : ¬ (i : Int) < (ss.length : Int) := by omega
      obtain rfl : i = ss.length := by omega
      clear hP hW hrs
      go_wp2_with fail
      (try simp only [Exit.inBlock, Exit.then])
      refine bodyPost_ret (results_tmp4 rfl _ _ _) rfl ?_
      exact ⟨_, _, _, _, _, rfl, HI.out⟩
end Dev
end Go.Proofs.YtfimaflglnemdaaDoor
