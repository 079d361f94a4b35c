/- The journal's rows: the law's grown. -/
import Derived.Test.YtfimaflglnemdaaDoorJuY
namespace Go.Proofs.YtfimaflglnemdaaDoor
open Go.RowKit
open JM
set_option maxRecDepth 20000
namespace Dev
theorem results_DS {fn : Func} {p q u : Tmp} (h : fn.results = #[.cell p 26, .cell q 47, .tmp u]) (tmps : Array Value) (w : World) (g g2 : Nat) (C D : Array Value) (hC : C.size = 2) (hD : D.size = 6)
    (hp : tmps.getD p undef = .pointer (some ⟨g, 0, none⟩)) (hg : w.heap[g]? = some (.cells C 26 (0, 0)))
    (hq : tmps.getD q undef = .pointer (some ⟨g2, 0, none⟩)) (hg2 : w.heap[g2]? = some (.cells D 47 (0, 0))) :
    (results fn tmps).run Tryd.prog w = .ok (.tuple #[.agg C, .agg D, tmps.getD u undef]) w := by
  have hp' : tmps[p]?.getD undef = .pointer (some ⟨g, 0, none⟩) := by simpa using hp
  have hq' : tmps[q]?.getD undef = .pointer (some ⟨g2, 0, none⟩) := by simpa using hq
  simp [results, h, hp', hq', asAddr, run_loadVar_row w g 26 26 C (0, 0) _ hg Tryd.underlying26 rfl (by rw [sizeD, hC]), run_loadVar_row w g2 47 47 D (0, 0) _ hg2 Tryd.underlying47 rfl (by rw [sizeSt, hD])]
theorem st_Dn (w : World) (D : Array Value) (hD : D.size = 2) (h1 : D.all (·.oneCell') = true) : (stD (.pointer (some ⟨w.heap.size, 0, none⟩)) (.agg D)).run Tryd.prog (w.alloc (.cells #[.slice none 0 0, .slice none 0 0] 26)) = .ok () (w.alloc (.cells D 26)) := by
  exact (st_D _ _ zD D rfl hD h1 (heap_alloc_new _ _)).trans (by rw [World.setRow_alloc_new])
/-- What a journal's numbers are within. -/
structure Jq (live gen first : Nat) (base : List (List Nat)) (bs : List (List (List Nat))) : Prop where
  lv : live ≤ 1
  g1 : 1 ≤ gen
  g2 : gen ≤ 1000
  f1 : 1 ≤ first
  f2 : first + bs.length ≤ 1000
  gb : Gl base
  gs : ∀ b ∈ bs, Gl b
  len : (journalw gen first base bs).length ≤ 4194367
  len2 : (journalw gen first base bs).length ≤ 1052844
  s20 : ∀ b ∈ bs, b.length ≤ 20
  ne : bs ≠ []
  f3 : first + bs.length ≤ 500
/-- What grown answers. -/
def Grn (W : World) (e : Ending) (w' : World) : Prop :=
  ∃ (live gen first : Nat) (base : List (List Nat)) (bs : List (List (List Nat))) (x : Sp) (c : Array Value) (t4 t5 : Value), e = .returned (.tuple #[.agg c, .agg (styA live (journalw gen first base bs).length gen first t4 t5), .bool true]) ∧ DkP W x c w' ∧ Ll W.heap.size w' t4 base ∧ Lb W.heap.size w' t5 bs ∧ (fl x live).1 = journalw gen first base bs ∧ (fl x (1 - live)).1 = [] ∧ Jq live gen first base bs
/-- The four rows of the step that is added. -/
def thr (X : World) : World := (((X.alloc (.cells #[.int .u8 7] 5)).alloc (.cells #[.int .u8 8, .int .u8 9] 5)).alloc (.cells #[.slice (some ⟨X.heap.size, 0, none⟩) 1 1, .slice none 0 0, .slice (some ⟨X.heap.size + 1, 0, none⟩) 2 2] 23)).alloc (.cells #[.bool false, .slice (some ⟨X.heap.size + 1 + 1, 0, none⟩) 3 3] 32)
theorem thr_bel (X : World) : Below X.heap.size X (thr X) := ((below2 X _ _).alloc (by simp; omega) _).alloc (by simp; omega) _
theorem thr_row (X : World) : (thr X).heap[X.heap.size]? = some (.cells #[.int .u8 7] 5 (0, 0)) ∧ (thr X).heap[X.heap.size + 1]? = some (.cells #[.int .u8 8, .int .u8 9] 5 (0, 0)) ∧ (thr X).heap[X.heap.size + 1 + 1]? = some (.cells #[.slice (some ⟨X.heap.size, 0, none⟩) 1 1, .slice none 0 0, .slice (some ⟨X.heap.size + 1, 0, none⟩) 2 2] 23 (0, 0)) ∧ (thr X).heap[X.heap.size + 1 + 1 + 1]? = some (.cells #[.bool false, .slice (some ⟨X.heap.size + 1 + 1, 0, none⟩) 3 3] 32 (0, 0)) := by
  obtain ⟨r0, r1, r2, _⟩ := row3 X (.cells #[.int .u8 7] 5) (.cells #[.int .u8 8, .int .u8 9] 5) (.cells #[.slice (some ⟨X.heap.size, 0, none⟩) 1 1, .slice none 0 0, .slice (some ⟨X.heap.size + 1, 0, none⟩) 2 2] 23)
  refine ⟨(heap_alloc_old _ _ (h := (Array.getElem?_eq_some_iff.1 r0).1)).trans r0, (heap_alloc_old _ _ (h := (Array.getElem?_eq_some_iff.1 r1).1)).trans r1, (heap_alloc_old _ _ (h := (Array.getElem?_eq_some_iff.1 r2).1)).trans r2, ?_⟩
  have := heap_alloc_new (((X.alloc (.cells #[.int .u8 7] 5)).alloc (.cells #[.int .u8 8, .int .u8 9] 5)).alloc (.cells #[.slice (some ⟨X.heap.size, 0, none⟩) 1 1, .slice none 0 0, .slice (some ⟨X.heap.size + 1, 0, none⟩) 2 2] 23)) (.cells #[.bool false, .slice (some ⟨X.heap.size + 1 + 1, 0, none⟩) 3 3] 32)
  rwa [show (((X.alloc (.cells #[.int .u8 7] 5)).alloc (.cells #[.int .u8 8, .int .u8 9] 5)).alloc (.cells #[.slice (some ⟨X.heap.size, 0, none⟩) 1 1, .slice none 0 0, .slice (some ⟨X.heap.size + 1, 0, none⟩) 2 2] 23)).heap.size = X.heap.size + 1 + 1 + 1 by simp] at this
theorem thr_lr (X : World) : Lr (thr X) (.slice (some ⟨X.heap.size + 1 + 1, 0, none⟩) 3 3) three := by
  obtain ⟨r0, r1, r2, _⟩ := thr_row X
  refine ⟨_, _, rfl, Nat.le_refl _, by unfold maxLen; decide, fun i hi => ?_⟩
  match i, hi with
  | 0, _ => exact ⟨_, _, _, rfl, (cell_of_row _ _ _ _ _ _ r2).trans rfl, bl_row (l := [7]) r0 (fun y hy => by simp at hy; omega) (by unfold maxLen; decide)⟩
  | 1, _ => exact ⟨_, _, _, rfl, (cell_of_row _ _ _ _ _ _ r2).trans rfl, bl_none _⟩
  | 2, _ => exact ⟨_, _, _, rfl, (cell_of_row _ _ _ _ _ _ r2).trans rfl, bl_row (l := [8, 9]) r1 (fun y hy => by simp at hy; omega) (by unfold maxLen; decide)⟩
abbrev S9 (k9 k10 gb live gl g0 g1 n0 n1 Ln gen first nb0 nb1 M la : Nat) (p4 p5 y0 y1 : Option Addr) (q4 q5 z0 z1 : Nat) (w' : World) : Prop := w'.cell? ⟨k9, 0, none⟩ = some (.slice (some ⟨g0, 0, none⟩) n0 n0) ∧ w'.cell? ⟨k9, 1, none⟩ = some (.slice (some ⟨g1, 0, none⟩) n1 n1) ∧ w'.cell? ⟨k9, live, none⟩ = some (.slice (some ⟨gl, 0, none⟩) Ln Ln) ∧ w'.cell? ⟨k10, 0, none⟩ = some (.int .i64 (live : Int)) ∧ w'.cell? ⟨k10, 1, none⟩ = some (.int .i64 (Ln : Int)) ∧ w'.cell? ⟨k10, 2, none⟩ = some (.int .i64 (gen : Int)) ∧ w'.cell? ⟨k10, 3, none⟩ = some (.int .i64 (first : Int)) ∧ w'.cell? ⟨k10, 4, none⟩ = some (.slice p4 nb0 q4) ∧ w'.cell? ⟨k10, 5, none⟩ = some (.slice p5 nb1 q5) ∧ w'.cell? ⟨gb, M * 3, none⟩ = some (.slice y0 nb0 z0) ∧ w'.cell? ⟨gb, M * 3 + 1, none⟩ = some (.slice y1 nb1 z1) ∧ w'.cell? ⟨gb, M * 3 + 2, none⟩ = some (.int .i64 (la : Int))
theorem cell_setR {w : World} {k : Nat} {D : Array Value} {a : Addr} {v : Value} (h : w.cell? a = some v) (hk : a.block ≠ k) : (w.setRow k D).cell? a = some v := (World.cell?_of_block (w := w) (a := a) (setRow_other _ _ _ _ hk)).trans h
section
variable {k9 k10 gb live gl g0 g1 n0 n1 Ln gen first nb0 nb1 M la : Nat} {p4 p5 y0 y1 : Option Addr} {q4 q5 z0 z1 : Nat} {w w' : World}
theorem S9.below (h : S9 k9 k10 gb live gl g0 g1 n0 n1 Ln gen first nb0 nb1 M la p4 p5 y0 y1 q4 q5 z0 z1 w) (hb : Below w.heap.size w w') : S9 k9 k10 gb live gl g0 g1 n0 n1 Ln gen first nb0 nb1 M la p4 p5 y0 y1 q4 q5 z0 z1 w' := by
  obtain ⟨h0, h1, h2, h3, h4, h5, h6, h7, h8, h9, h10, h11⟩ := h
  exact ⟨cell_below hb h0, cell_below hb h1, cell_below hb h2, cell_below hb h3, cell_below hb h4, cell_below hb h5, cell_below hb h6, cell_below hb h7, cell_below hb h8, cell_below hb h9, cell_below hb h10, cell_below hb h11⟩
theorem S9.set (h : S9 k9 k10 gb live gl g0 g1 n0 n1 Ln gen first nb0 nb1 M la p4 p5 y0 y1 q4 q5 z0 z1 w) {k : Nat} (D : Array Value) (a1 : k9 ≠ k) (a2 : k10 ≠ k) (a3 : gb ≠ k) : S9 k9 k10 gb live gl g0 g1 n0 n1 Ln gen first nb0 nb1 M la p4 p5 y0 y1 q4 q5 z0 z1 (w.setRow k D) := by
  obtain ⟨h0, h1, h2, h3, h4, h5, h6, h7, h8, h9, h10, h11⟩ := h
  exact ⟨cell_setR h0 a1, cell_setR h1 a1, cell_setR h2 a1, cell_setR h3 a2, cell_setR h4 a2, cell_setR h5 a2, cell_setR h6 a2, cell_setR h7 a2, cell_setR h8 a2, cell_setR h9 a3, cell_setR h10 a3, cell_setR h11 a3⟩
end
attribute [local go_sem ↓] toSlS toApS toStD toStSt in
set_option maxRecDepth 100000 in
set_option maxHeartbeats 3200000 in
theorem grown_any {us : Value} {ss : List (Bool × List (List Nat))} (W : World) (hS : Ss W us ss) (hT : Tc W) :
    Calls Tryd.prog 11 #[us] W (Grn W) := by
  obtain ⟨oa, cap, rfl⟩ := hS.sl
  have hcap : ss.length ≤ cap := by obtain ⟨_, _, e, h, _⟩ := hS; injection e with _ _ e; subst e; exact h
  obtain ⟨m, hm⟩ : ∃ m, (ss.take 25).length = m := ⟨_, rfl⟩
  have hm25 : m ≤ 25 := by rw [← hm, List.length_take]; omega
  have hmc : m ≤ cap := by rw [← hm, List.length_take]; omega
  have hS2 : Ss W (.slice oa m cap) (ss.take 25) := by
    have := hS.take m (by rw [← hm, List.length_take]; omega)
    rwa [show ss.take m = ss.take 25 by rw [← hm, List.length_take, List.take_eq_take_iff]; omega] at this
  obtain ⟨X, hX⟩ : ∃ X, (W.alloc (.cells #[.slice none 0 0, .slice none 0 0] 26)).alloc (.cells #[.int .i64 0, .int .i64 0, .int .i64 0, .int .i64 0, .slice none 0 0, .slice none 0 0] 47) = X := ⟨_, rfl⟩
  have bX : Below W.heap.size W X := by rw [← hX]; exact below2 _ _ _
  have x0 : X.heap[W.heap.size]? = some (.cells zD 26 (0, 0)) := by rw [← hX]; exact row2 _ _ _
  have x1 : X.heap[W.heap.size + 1]? = some (.cells zS 47 (0, 0)) := by rw [← hX]; exact row2n _ _ _
  have zX : X.heap.size = W.heap.size + 2 := by rw [← hX]; simp
  have bT := thr_bel X
  have bWT : Below W.heap.size W (thr X) := bX.trans (bT.mono bX.size)
  obtain ⟨t0, t1, t2, t3⟩ := thr_row X
  obtain ⟨gs, cs, w1, hrA, hS3, b1⟩ := app_steps (A := thr X) (k := X.heap.size + 1 + 1 + 1) (by rw [hm]; exact hS2) (by omega) bWT ((cell_of_row _ _ _ _ _ _ t3).trans rfl) ((cell_of_row _ _ _ _ _ _ t3).trans rfl) (thr_lr X) (fun y hy => by simp [three] at hy; rcases hy with rfl | rfl | rfl <;> (unfold Go.Proofs.YtfimaflglnemdaaDoor.LIM; simp))
  rw [hm] at hrA hS3
  have hlen : (ss.take 25 ++ [(false, three)]).length = m + 1 := by rw [List.length_append, hm]; rfl
  have b1W : Below W.heap.size W w1 := bWT.trans (b1.mono bWT.size)
  have hT1 : Tc w1 := hT.below b1W hT.sz
  have CL := lived_any w1 hS3 (by omega) hT1
  rw [hlen] at CL
  unfold lifA at CL
  have q2 := fun w => sl_hm w oa m cap hmc (fun h => by
    obtain ⟨_, _, e, _, _, h4⟩ := hS2
    injection e with e _ _
    subst e
    obtain ⟨g, o, _, e, _⟩ := h4 0 (by omega)
    exact ⟨g, o, e⟩)
  have HB := mkHid (And.intro bX (And.intro x0 (And.intro x1 (And.intro zX (And.intro bT (And.intro b1 (And.intro b1W hT1)))))))
  unfold thr at hrA
  have key : (¬ (25 : Int) < (ss.length : Int) ∧ ss.length = m) ∨ ((25 : Int) < (ss.length : Int) ∧ ∀ w, (slS (.slice oa ss.length cap) none (some (.int .i64 25)) none).run Tryd.prog w = .ok (.slice oa m cap) w) := by
    by_cases h : 25 < ss.length
    · obtain ⟨_, _, e, _, _, h4⟩ := hS
      injection e with e _ _
      subst e
      obtain ⟨g, o, _, rfl, _⟩ := h4 0 (by omega)
      obtain rfl : m = 25 := by rw [← hm, List.length_take]; omega
      exact .inr ⟨by omega, fun w => sl_h w g o ss.length cap 25 hmc⟩
    · exact .inl ⟨by omega, by rw [← hm, List.length_take]; omega⟩
  obtain ⟨N, hN⟩ : ∃ N, ss.length = N := ⟨_, rfl⟩
  rw [hN] at key
  rw [hN]
  have hnth := mkHid (show (ss.take 25 ++ [(false, three)])[m + 1 - 1]? = some (false, three) by
    rw [Nat.add_sub_cancel, List.getElem?_append_right (by omega), hm, Nat.sub_self]
    rfl)
  clear hcap hS hS2 bX x0 x1 zX bT bWT t0 t1 t2 t3 hS3 b1 b1W hT1 hlen hm hN hT
  rcases key with ⟨k1, k2⟩ | ⟨k1, k2⟩
  · replace k2 := k2.symm
    subst k2
    go_enter Tryd.func11, Tryd.ntmps11
    go_upto_region 3 with fail
    try rw [hX]
    clear hX
    go_wp2_with fail
    refine CL.mono ?_
    rintro e w2 ⟨lo, j, v, cv, bv, rfl, hLv⟩
    clear CL hrA q2
    letI := hJ j
    obtain ⟨live, gen, first, n, base, bs, u0, u1, xs, rs, hP, hW, hrs, hne0⟩ := hLv
    obtain ⟨x, jn, fx, fo, by0, by1, l0, l1, hr⟩ := hP.js.files
    have CD := jn.disk
    have hne := mkHid (hne0 three (by omega) hnth.out)
    clear hne0 hnth
    obtain ⟨la, hla⟩ : ∃ la, first - 1 + bs.length = la := ⟨_, rfl⟩
    rw [hla] at hrs
    obtain ⟨Ln, hLn⟩ : ∃ Ln, (journalw gen first base bs).length = Ln := ⟨_, rfl⟩
    obtain ⟨M, hM⟩ : ∃ M, m + 1 = M := ⟨_, rfl⟩
    rw [hM] at hP hW hrs
    rw [hM]
    have hM26 : M ≤ 26 := by omega
    clear hM
    obtain ⟨gb, nb, rfl, hgb, hbc⟩ : ∃ gb nb, bv = .slice (some ⟨gb, 0, none⟩) (M + 1) nb ∧ w1.heap.size ≤ gb ∧ ∀ k u, ([u0, u1, .int .i64 (la : Int)] : List Value)[k]? = some u → w2.cell? ⟨gb, M * 3 + k, none⟩ = some u := by
      rcases hW.ob.2 with ⟨_, h⟩ | ⟨gb, nb, cur, rfl, hg0, hg, _, _, _, h8⟩
      · omega
      · refine ⟨gb, nb, rfl, by omega, fun k u hu => ?_⟩
        have hk : k < 3 := by have := (List.getElem?_eq_some_iff.1 hu).1; simpa using this
        rw [← hrs, List.getElem?_drop, ← h8, List.getElem?_take, if_pos (by omega), Array.getElem?_toList] at hu
        exact (cell_of_row _ _ _ _ _ _ hg).trans hu
    obtain ⟨y0, z0, ey0⟩ := hP.b0.sl
    obtain ⟨y1, z1, ey1⟩ := hP.b1.sl
    subst ey0 ey1
    have HP := mkHid (And.intro hP (And.intro hW.bel (And.intro fx fo)))
    have HX := mkHid (And.intro by0 (And.intro by1 (And.intro l0 (And.intro l1 hr))))
    replace hbc := mkHid hbc
    clear hP hW hrs jn fx fo by0 by1 l0 l1 hr
    go_wp2_with fail
    refine CD.mono ?_
    rintro e w3 ⟨c, rfl, g0, g1, rfl, d0, d1, z2, z3, d01, b3⟩
    clear CD
    unfold dkA
    have st1 := st_Dn w3 (dkA g0 x.1.1.length g1 x.2.1.length) rfl (by simp [dkA, Value.oneCell'])
    unfold dkA at st1
    obtain ⟨n0, hn0⟩ : ∃ n0, x.1.1.length = n0 := ⟨_, rfl⟩
    obtain ⟨n1, hn1⟩ : ∃ n1, x.2.1.length = n1 := ⟨_, rfl⟩
    rw [hn0, hn1] at st1
    rw [hn0, hn1]
    obtain ⟨w4, hw4⟩ : ∃ w4, w3.alloc (.cells #[.slice (some ⟨g0, 0, none⟩) n0 n0, .slice (some ⟨g1, 0, none⟩) n1 n1] 26) = w4 := ⟨_, rfl⟩
    have b4 : Below w3.heap.size w3 w4 := by rw [← hw4]; exact (Below.refl _ w3).alloc (Nat.le_refl _) _
    have r9 : w4.heap[w3.heap.size]? = some (.cells #[.slice (some ⟨g0, 0, none⟩) n0 n0, .slice (some ⟨g1, 0, none⟩) n1 n1] 26 (0, 0)) := by rw [← hw4]; exact heap_alloc_new _ _
    rw [hw4] at st1
    have d0b := (b4.block _ (Array.getElem?_eq_some_iff.1 d0).1).trans d0
    have d1b := (b4.block _ (Array.getElem?_eq_some_iff.1 d1).1).trans d1
    have hlM : ∀ a, a ≤ 67108864 → a ≤ maxLen ∧ a ≤ Go.Proofs.YtfimaflglnemdaaDoor.LIM := fun a h => ⟨by unfold maxLen; omega, by unfold Go.Proofs.YtfimaflglnemdaaDoor.LIM; omega⟩
    have C8 := diskOf_any w4 (bl_row d0b HX.out.1 (hlM _ HX.out.2.2.1).1) (bl_row d1b HX.out.2.1 (hlM _ HX.out.2.2.2.1).1) (hlM _ HX.out.2.2.1).2 (hlM _ HX.out.2.2.2.1).2
    rw [hn0, hn1] at C8
    have bY : Below W.heap.size W w2 := HB.out.2.2.2.2.2.2.1.trans (HP.out.2.1.mono HB.out.2.2.2.2.2.2.1.size)
    have b24 : Below w2.heap.size w2 w4 := b3.trans (b4.mono b3.size)
    obtain ⟨k9, hk9⟩ : ∃ k9, w3.heap.size = k9 := ⟨_, rfl⟩
    rw [hk9] at r9 st1
    have c90 : w4.cell? ⟨k9, 0, none⟩ = some (.slice (some ⟨g0, 0, none⟩) n0 n0) := (cell_of_row _ _ _ _ _ _ r9).trans rfl
    have c91 : w4.cell? ⟨k9, 1, none⟩ = some (.slice (some ⟨g1, 0, none⟩) n1 n1) := (cell_of_row _ _ _ _ _ _ r9).trans rfl
    have HD := mkHid (And.intro d0b (And.intro d1b (And.intro z2 (And.intro z3 (And.intro d01 (And.intro b24 (And.intro bY r9)))))))
    have b23 := mkHid b3
    have HN := mkHid (And.intro hn0 (And.intro hn1 (And.intro hLn (And.intro hk9 hla))))
    clear d0 d1 z2 z3 d01 b3 hw4 b4 r9 d0b d1b hlM bY b24 hn0 hn1 hLn hla
    go_wp2_with fail
    refine C8.mono ?_
    rintro e w5 ⟨o2, o3, c2, c3, rfl, e0, e1, b5⟩
    clear C8 st1 hk9
    have b24 := HD.out.2.2.2.2.2.1
    have b25 : Below w2.heap.size w2 w5 := b24.trans (b5.mono b24.size)
    have b15 : Below w1.heap.size w1 w5 := HP.out.2.1.trans (b25.mono HP.out.2.1.size)
    have hT1 := HB.out.2.2.2.2.2.2.2
    have C9 := replay_story w5 e0 e1 (hT1.below b15 hT1.sz) HX.out.2.2.2.2
    dsimp only at C9
    rw [HN.out.2.2.1] at C9
    have c90b := cell_below b5 c90
    have c91b := cell_below b5 c91
    have r9b := (b5.block _ (Array.getElem?_eq_some_iff.1 HD.out.2.2.2.2.2.2.2).1).trans HD.out.2.2.2.2.2.2.2
    have HE := mkHid (And.intro b5 (And.intro b25 (And.intro b15 r9b)))
    clear e0 e1 b5 b24 b25 b15 hT1 c90 c91 r9b
    go_wp2_with fail
    refine C9.mono ?_
    rintro e w6 ⟨t4, t5, rfl, k4, k5, b6⟩
    clear C9
    obtain ⟨p4, q4, et4⟩ := k4.sl
    obtain ⟨p5, q5, et5⟩ := k5.sl
    subst et4 et5
    unfold styA
    have st2 := st_Sn w6 #[.int .i64 (live : Int), .int .i64 (Ln : Int), .int .i64 (gen : Int), .int .i64 (first : Int), .slice p4 base.length q4, .slice p5 bs.length q5] rfl (by simp [Value.oneCell'])
    obtain ⟨w7, hw7⟩ : ∃ w7, w6.alloc (.cells #[.int .i64 (live : Int), .int .i64 (Ln : Int), .int .i64 (gen : Int), .int .i64 (first : Int), .slice p4 base.length q4, .slice p5 bs.length q5] 47) = w7 := ⟨_, rfl⟩
    have b7 : Below w6.heap.size w6 w7 := by rw [← hw7]; exact (Below.refl _ w6).alloc (Nat.le_refl _) _
    have r10 : w7.heap[w6.heap.size]? = some (.cells #[.int .i64 (live : Int), .int .i64 (Ln : Int), .int .i64 (gen : Int), .int .i64 (first : Int), .slice p4 base.length q4, .slice p5 bs.length q5] 47 (0, 0)) := by rw [← hw7]; exact heap_alloc_new _ _
    rw [hw7] at st2
    clear hw7
    obtain ⟨k10, hk10⟩ : ∃ k10, w6.heap.size = k10 := ⟨_, rfl⟩
    rw [hk10] at r10 st2
    have b67 : Below w6.heap.size w6 w7.drew := b7.trans ((below_drew w7).mono b7.size)
    have b57 : Below w5.heap.size w5 w7.drew := b6.trans (b67.mono b6.size)
    have b27 : Below w2.heap.size w2 w7.drew := HE.out.2.1.trans (b57.mono HE.out.2.1.size)
    have s90 := cell_below b57 c90b
    have s91 := cell_below b57 c91b
    obtain ⟨gl, sL⟩ : ∃ gl, w7.drew.cell? ⟨k9, live, none⟩ = some (.slice (some ⟨gl, 0, none⟩) Ln Ln) := by
      have hlv := HP.out.1.js.lv1
      have e := HP.out.2.2.1
      obtain rfl | rfl : live = 0 ∨ live = 1 := by omega
      · refine ⟨g0, s90.trans ?_⟩
        rw [← HN.out.1, ← HN.out.2.2.1, ← e]
        rfl
      · refine ⟨g1, s91.trans ?_⟩
        rw [← HN.out.2.1, ← HN.out.2.2.1, ← e]
        rfl
    have rd10 : w7.drew.heap[k10]? = _ := r10
    have s100 : w7.drew.cell? ⟨k10, 0, none⟩ = some (.int .i64 (live : Int)) := (cell_of_row _ _ _ _ _ _ rd10).trans rfl
    have s101 : w7.drew.cell? ⟨k10, 1, none⟩ = some (.int .i64 (Ln : Int)) := (cell_of_row _ _ _ _ _ _ rd10).trans rfl
    have s102 : w7.drew.cell? ⟨k10, 2, none⟩ = some (.int .i64 (gen : Int)) := (cell_of_row _ _ _ _ _ _ rd10).trans rfl
    have s103 : w7.drew.cell? ⟨k10, 3, none⟩ = some (.int .i64 (first : Int)) := (cell_of_row _ _ _ _ _ _ rd10).trans rfl
    have s104 : w7.drew.cell? ⟨k10, 4, none⟩ = some (.slice p4 base.length q4) := (cell_of_row _ _ _ _ _ _ rd10).trans rfl
    have s105 : w7.drew.cell? ⟨k10, 5, none⟩ = some (.slice p5 bs.length q5) := (cell_of_row _ _ _ _ _ _ rd10).trans rfl
    have sb0 : w7.drew.cell? ⟨gb, M * 3, none⟩ = _ := cell_below b27 (hbc.out 0 _ rfl)
    have sb1 : w7.drew.cell? ⟨gb, M * 3 + 1, none⟩ = _ := cell_below b27 (hbc.out 1 _ rfl)
    have sb2 : w7.drew.cell? ⟨gb, M * 3 + 2, none⟩ = _ := cell_below b27 (hbc.out 2 _ rfl)
    have k4b := k4.keep (stay_below b67)
    have k5b := k5.keep (stay_below b67)
    have CH := holds_eq (i := live) (good := Ln) (gen := gen) w7.drew (HP.out.1.b0.keep (stay_below b27)) (HP.out.1.b1.keep (stay_below b27)) k4b k5b (by have := HP.out.1.js.gb.n; omega) (by have := HP.out.1.js.f2; omega) (fun x hx => by have := (HP.out.1.js.gs x hx).n; omega) HP.out.1.js.f1 (by have := HP.out.1.js.f2; omega) HN.out.2.2.2.2
    unfold bkA styA at CH
    replace CH := mkHid CH
    have hl0 : (0 : Int) ≤ (live : Int) := by omega
    have hM1 : IntKind.i64.wrap (M : Int) = (M : Int) := by rw [IntKind.wrap_i64]; omega
    have hM2 : IntKind.i64.wrap ((M : Int) + 1 - 1) = (M : Int) := by rw [IntKind.wrap_i64]; omega
    have hM3 : (0 : Int) ≤ (M : Int) := by omega
    have hM4 : (M : Int) < (M : Int) + 1 := by omega
    have hM5 : (M : Int) < ((M + 1 : Nat) : Int) := by omega
    have hl1 : (live : Int) < 2 := by have := HP.out.1.js.lv1; omega
    have hS7 : S9 k9 k10 gb live gl g0 g1 n0 n1 Ln gen first base.length bs.length M la p4 p5 y0 y1 q4 q5 z0 z1 w7.drew := ⟨s90, s91, sL, s100, s101, s102, s103, s104, s105, sb0, sb1, sb2⟩
    have HZ : Hid (∀ w8, Below w7.drew.heap.size w7.drew w8 → S9 k9 k10 gb live gl g0 g1 n0 n1 Ln gen first base.length bs.length M la p4 p5 y0 y1 q4 q5 z0 z1 w8 ∧
        (stD (.pointer (some ⟨W.heap.size, 0, none⟩)) (.agg #[.slice (some ⟨g0, 0, none⟩) n0 n0, .slice (some ⟨g1, 0, none⟩) n1 n1])).run Tryd.prog w8 = .ok () (w8.setRow W.heap.size #[.slice (some ⟨g0, 0, none⟩) n0 n0, .slice (some ⟨g1, 0, none⟩) n1 n1]) ∧
        S9 k9 k10 gb live gl g0 g1 n0 n1 Ln gen first base.length bs.length M la p4 p5 y0 y1 q4 q5 z0 z1 (w8.setRow W.heap.size #[.slice (some ⟨g0, 0, none⟩) n0 n0, .slice (some ⟨g1, 0, none⟩) n1 n1]) ∧
        (stSt (.pointer (some ⟨W.heap.size + 1, 0, none⟩)) (.agg #[.int .i64 (live : Int), .int .i64 (Ln : Int), .int .i64 (gen : Int), .int .i64 (first : Int), .slice p4 base.length q4, .slice p5 bs.length q5])).run Tryd.prog (w8.setRow W.heap.size #[.slice (some ⟨g0, 0, none⟩) n0 n0, .slice (some ⟨g1, 0, none⟩) n1 n1]) = .ok () ((w8.setRow W.heap.size #[.slice (some ⟨g0, 0, none⟩) n0 n0, .slice (some ⟨g1, 0, none⟩) n1 n1]).setRow (W.heap.size + 1) #[.int .i64 (live : Int), .int .i64 (Ln : Int), .int .i64 (gen : Int), .int .i64 (first : Int), .slice p4 base.length q4, .slice p5 bs.length q5]) ∧
        S9 k9 k10 gb live gl g0 g1 n0 n1 Ln gen first base.length bs.length M la p4 p5 y0 y1 q4 q5 z0 z1 ((w8.setRow W.heap.size #[.slice (some ⟨g0, 0, none⟩) n0 n0, .slice (some ⟨g1, 0, none⟩) n1 n1]).setRow (W.heap.size + 1) #[.int .i64 (live : Int), .int .i64 (Ln : Int), .int .i64 (gen : Int), .int .i64 (first : Int), .slice p4 base.length q4, .slice p5 bs.length q5]) ∧
        Hid (∃ w10, ((w8.setRow W.heap.size #[.slice (some ⟨g0, 0, none⟩) n0 n0, .slice (some ⟨g1, 0, none⟩) n1 n1]).setRow (W.heap.size + 1) #[.int .i64 (live : Int), .int .i64 (Ln : Int), .int .i64 (gen : Int), .int .i64 (first : Int), .slice p4 base.length q4, .slice p5 bs.length q5]) = w10 ∧ w10.heap[W.heap.size]? = some (.cells (dkA g0 x.1.1.length g1 x.2.1.length) 26 (0, 0)) ∧ w10.heap[W.heap.size + 1]? = some (.cells (styA live (journalw gen first base bs).length gen first (.slice p4 base.length q4) (.slice p5 bs.length q5)) 47 (0, 0)) ∧ DkP W x (dkA g0 x.1.1.length g1 x.2.1.length) w10 ∧ Ll W.heap.size w10 (.slice p4 base.length q4) base ∧ Lb W.heap.size w10 (.slice p5 bs.length q5) bs)) := by
      intro w8 b8
      have hb1 := HB.out.2.2.2.2.1.trans (HB.out.2.2.2.2.2.1.mono HB.out.2.2.2.2.1.size)
      have hb2 := hb1.trans (HP.out.2.1.mono hb1.size)
      have hb7 := hb2.trans (b27.mono hb2.size)
      have hb8 := hb7.trans (b8.mono hb7.size)
      have zX := HB.out.2.2.2.1
      have rx0 := (hb8.block _ (by omega)).trans HB.out.2.1
      have rx1 := (hb8.block _ (by omega)).trans HB.out.2.2.1
      have n9 : w2.heap.size ≤ k9 := by have := HD.out.2.2.2.2.2.1.size; have := HN.out.2.2.2.1; rw [← this]; exact b23.out.size
      have n10 : w2.heap.size ≤ k10 := by rw [← hk10]; exact Nat.le_trans HE.out.2.1.size b6.size
      have nW2 : W.heap.size + 2 ≤ w2.heap.size := by rw [← zX]; exact hb2.size
      have nW1 : W.heap.size + 2 ≤ w1.heap.size := by rw [← zX]; exact hb1.size
      have nW5 : W.heap.size + 2 ≤ w5.heap.size := Nat.le_trans nW2 HE.out.2.1.size
      have S8 := S9.below hS7 b8
      have rx1b : (w8.setRow W.heap.size #[.slice (some ⟨g0, 0, none⟩) n0 n0, .slice (some ⟨g1, 0, none⟩) n1 n1]).heap[W.heap.size + 1]? = some (.cells zS 47 (0, 0)) := (setRow_other _ _ _ _ (by omega)).trans rx1
      have S8b := S9.set S8 #[.slice (some ⟨g0, 0, none⟩) n0 n0, .slice (some ⟨g1, 0, none⟩) n1 n1] (k := W.heap.size) (by omega) (by omega) (by omega)
      refine ⟨S8, st_D w8 _ zD _ rfl rfl (by simp [Value.oneCell']) rx0, S8b, st_Sr _ _ zS _ rfl rfl (by simp [Value.oneCell']) rx1b, S9.set S8b _ (by omega) (by omega) (by omega), _, rfl, ?_, ?_, ?_, ?_, ?_⟩
      · rw [HN.out.1, HN.out.2.1]
        exact (setRow_other _ _ _ _ (by omega)).trans (setRow_heap _ _ _ _ _ _ rx0)
      · rw [HN.out.2.2.1]
        exact setRow_heap _ _ _ _ _ _ rx1b
      · have b48 := HE.out.1.trans ((b57.trans (b8.mono b57.size)).mono HE.out.1.size)
        have g0z := HD.out.2.2.1
        have g1z := HD.out.2.2.2.1
        refine ⟨g0, g1, rfl, (setRow_other _ _ _ _ (by omega)).trans ((setRow_other _ _ _ _ (by omega)).trans ((b48.block _ (Array.getElem?_eq_some_iff.1 HD.out.1).1).trans HD.out.1)), (setRow_other _ _ _ _ (by omega)).trans ((setRow_other _ _ _ _ (by omega)).trans ((b48.block _ (Array.getElem?_eq_some_iff.1 HD.out.2.1).1).trans HD.out.2.1)), by omega, by omega, HD.out.2.2.2.2.1, ?_⟩
        have bY := HD.out.2.2.2.2.2.2.1
        have q7 := bY.trans (b27.mono bY.size)
        have q8 := q7.trans (b8.mono q7.size)
        exact below_setRow (below_setRow q8 (Nat.le_refl _) _) (by omega) _
      · exact ((k4b.keep (stay_below b8)).keep (fun k c t hk _ _ => (setRow_other _ _ _ _ (by omega)).trans (setRow_other _ _ _ _ (by omega)))).mono (by omega)
      · exact ((k5b.keep (stay_below b8)).keep (fun k c t hk _ _ => (setRow_other _ _ _ _ (by omega)).trans (setRow_other _ _ _ _ (by omega)))).mono (by omega)
    have HF := mkHid (And.intro k4b (And.intro k5b (And.intro b57 b27)))
    clear k4 k5 k4b k5b b6 b7 r10 b67 b57 b27 c90b c91b rd10
    clear s90 s91 sL s100 s101 s102 s103 s104 s105 sb0 sb1 sb2
    go_upto_region 9 with fail
    clear hk10
    go_region_held3 (fun w' => S9 k9 k10 gb live gl g0 g1 n0 n1 Ln gen first base.length bs.length M la p4 p5 y0 y1 q4 q5 z0 z1 w') (first | assumption | exact hS7 | exact hS8 | exact hS9 | exact hS10)
      (first
        | (go_at_call 38; with_reducible refine Calls.mono CH.out ?_; rintro e w8 ⟨rfl, b8⟩; obtain ⟨hS8, st3, hS9, st4, hS10, FIN⟩ := HZ.out w8 b8))
    obtain ⟨w10, hw10, f1, f2, f3, f4, f5⟩ := FIN.out
    rw [hw10]
    clear hS8 st3 hS9 st4 hS10 FIN hw10
    go_wp2_with fail
    refine bodyPost_ret (results_DS rfl _ _ W.heap.size (W.heap.size + 1) _ _ rfl rfl rfl f1 rfl f2) rfl ?_
    have js := HP.out.1.js
    exact ⟨live, gen, first, base, bs, x, _, _, _, rfl, f3, f4, f5, HP.out.2.2.1, HP.out.2.2.2, ⟨js.lv1, js.g1, js.g2, js.f1, js.f2, js.gb, js.gs, js.fit, by have := HP.out.1.q4; omega, HP.out.1.q6, hne.out, by have := HP.out.1.q2; omega⟩⟩
  · go_enter Tryd.func11, Tryd.ntmps11
    go_upto_region 3 with fail
    clear k1 k2
    try rw [hX]
    clear hX
    go_wp2_with fail
    refine CL.mono ?_
    rintro e w2 ⟨lo, j, v, cv, bv, rfl, hLv⟩
    clear CL hrA q2
    letI := hJ j
    obtain ⟨live, gen, first, n, base, bs, u0, u1, xs, rs, hP, hW, hrs, hne0⟩ := hLv
    obtain ⟨x, jn, fx, fo, by0, by1, l0, l1, hr⟩ := hP.js.files
    have CD := jn.disk
    have hne := mkHid (hne0 three (by omega) hnth.out)
    clear hne0 hnth
    obtain ⟨la, hla⟩ : ∃ la, first - 1 + bs.length = la := ⟨_, rfl⟩
    rw [hla] at hrs
    obtain ⟨Ln, hLn⟩ : ∃ Ln, (journalw gen first base bs).length = Ln := ⟨_, rfl⟩
    obtain ⟨M, hM⟩ : ∃ M, m + 1 = M := ⟨_, rfl⟩
    rw [hM] at hP hW hrs
    rw [hM]
    have hM26 : M ≤ 26 := by omega
    clear hM
    obtain ⟨gb, nb, rfl, hgb, hbc⟩ : ∃ gb nb, bv = .slice (some ⟨gb, 0, none⟩) (M + 1) nb ∧ w1.heap.size ≤ gb ∧ ∀ k u, ([u0, u1, .int .i64 (la : Int)] : List Value)[k]? = some u → w2.cell? ⟨gb, M * 3 + k, none⟩ = some u := by
      rcases hW.ob.2 with ⟨_, h⟩ | ⟨gb, nb, cur, rfl, hg0, hg, _, _, _, h8⟩
      · omega
      · refine ⟨gb, nb, rfl, by omega, fun k u hu => ?_⟩
        have hk : k < 3 := by have := (List.getElem?_eq_some_iff.1 hu).1; simpa using this
        rw [← hrs, List.getElem?_drop, ← h8, List.getElem?_take, if_pos (by omega), Array.getElem?_toList] at hu
        exact (cell_of_row _ _ _ _ _ _ hg).trans hu
    obtain ⟨y0, z0, ey0⟩ := hP.b0.sl
    obtain ⟨y1, z1, ey1⟩ := hP.b1.sl
    subst ey0 ey1
    have HP := mkHid (And.intro hP (And.intro hW.bel (And.intro fx fo)))
    have HX := mkHid (And.intro by0 (And.intro by1 (And.intro l0 (And.intro l1 hr))))
    replace hbc := mkHid hbc
    clear hP hW hrs jn fx fo by0 by1 l0 l1 hr
    go_wp2_with fail
    refine CD.mono ?_
    rintro e w3 ⟨c, rfl, g0, g1, rfl, d0, d1, z2, z3, d01, b3⟩
    clear CD
    unfold dkA
    have st1 := st_Dn w3 (dkA g0 x.1.1.length g1 x.2.1.length) rfl (by simp [dkA, Value.oneCell'])
    unfold dkA at st1
    obtain ⟨n0, hn0⟩ : ∃ n0, x.1.1.length = n0 := ⟨_, rfl⟩
    obtain ⟨n1, hn1⟩ : ∃ n1, x.2.1.length = n1 := ⟨_, rfl⟩
    rw [hn0, hn1] at st1
    rw [hn0, hn1]
    obtain ⟨w4, hw4⟩ : ∃ w4, w3.alloc (.cells #[.slice (some ⟨g0, 0, none⟩) n0 n0, .slice (some ⟨g1, 0, none⟩) n1 n1] 26) = w4 := ⟨_, rfl⟩
    have b4 : Below w3.heap.size w3 w4 := by rw [← hw4]; exact (Below.refl _ w3).alloc (Nat.le_refl _) _
    have r9 : w4.heap[w3.heap.size]? = some (.cells #[.slice (some ⟨g0, 0, none⟩) n0 n0, .slice (some ⟨g1, 0, none⟩) n1 n1] 26 (0, 0)) := by rw [← hw4]; exact heap_alloc_new _ _
    rw [hw4] at st1
    have d0b := (b4.block _ (Array.getElem?_eq_some_iff.1 d0).1).trans d0
    have d1b := (b4.block _ (Array.getElem?_eq_some_iff.1 d1).1).trans d1
    have hlM : ∀ a, a ≤ 67108864 → a ≤ maxLen ∧ a ≤ Go.Proofs.YtfimaflglnemdaaDoor.LIM := fun a h => ⟨by unfold maxLen; omega, by unfold Go.Proofs.YtfimaflglnemdaaDoor.LIM; omega⟩
    have C8 := diskOf_any w4 (bl_row d0b HX.out.1 (hlM _ HX.out.2.2.1).1) (bl_row d1b HX.out.2.1 (hlM _ HX.out.2.2.2.1).1) (hlM _ HX.out.2.2.1).2 (hlM _ HX.out.2.2.2.1).2
    rw [hn0, hn1] at C8
    have bY : Below W.heap.size W w2 := HB.out.2.2.2.2.2.2.1.trans (HP.out.2.1.mono HB.out.2.2.2.2.2.2.1.size)
    have b24 : Below w2.heap.size w2 w4 := b3.trans (b4.mono b3.size)
    obtain ⟨k9, hk9⟩ : ∃ k9, w3.heap.size = k9 := ⟨_, rfl⟩
    rw [hk9] at r9 st1
    have c90 : w4.cell? ⟨k9, 0, none⟩ = some (.slice (some ⟨g0, 0, none⟩) n0 n0) := (cell_of_row _ _ _ _ _ _ r9).trans rfl
    have c91 : w4.cell? ⟨k9, 1, none⟩ = some (.slice (some ⟨g1, 0, none⟩) n1 n1) := (cell_of_row _ _ _ _ _ _ r9).trans rfl
    have HD := mkHid (And.intro d0b (And.intro d1b (And.intro z2 (And.intro z3 (And.intro d01 (And.intro b24 (And.intro bY r9)))))))
    have b23 := mkHid b3
    have HN := mkHid (And.intro hn0 (And.intro hn1 (And.intro hLn (And.intro hk9 hla))))
    clear d0 d1 z2 z3 d01 b3 hw4 b4 r9 d0b d1b hlM bY b24 hn0 hn1 hLn hla
    go_wp2_with fail
    refine C8.mono ?_
    rintro e w5 ⟨o2, o3, c2, c3, rfl, e0, e1, b5⟩
    clear C8 st1 hk9
    have b24 := HD.out.2.2.2.2.2.1
    have b25 : Below w2.heap.size w2 w5 := b24.trans (b5.mono b24.size)
    have b15 : Below w1.heap.size w1 w5 := HP.out.2.1.trans (b25.mono HP.out.2.1.size)
    have hT1 := HB.out.2.2.2.2.2.2.2
    have C9 := replay_story w5 e0 e1 (hT1.below b15 hT1.sz) HX.out.2.2.2.2
    dsimp only at C9
    rw [HN.out.2.2.1] at C9
    have c90b := cell_below b5 c90
    have c91b := cell_below b5 c91
    have r9b := (b5.block _ (Array.getElem?_eq_some_iff.1 HD.out.2.2.2.2.2.2.2).1).trans HD.out.2.2.2.2.2.2.2
    have HE := mkHid (And.intro b5 (And.intro b25 (And.intro b15 r9b)))
    clear e0 e1 b5 b24 b25 b15 hT1 c90 c91 r9b
    go_wp2_with fail
    refine C9.mono ?_
    rintro e w6 ⟨t4, t5, rfl, k4, k5, b6⟩
    clear C9
    obtain ⟨p4, q4, et4⟩ := k4.sl
    obtain ⟨p5, q5, et5⟩ := k5.sl
    subst et4 et5
    unfold styA
    have st2 := st_Sn w6 #[.int .i64 (live : Int), .int .i64 (Ln : Int), .int .i64 (gen : Int), .int .i64 (first : Int), .slice p4 base.length q4, .slice p5 bs.length q5] rfl (by simp [Value.oneCell'])
    obtain ⟨w7, hw7⟩ : ∃ w7, w6.alloc (.cells #[.int .i64 (live : Int), .int .i64 (Ln : Int), .int .i64 (gen : Int), .int .i64 (first : Int), .slice p4 base.length q4, .slice p5 bs.length q5] 47) = w7 := ⟨_, rfl⟩
    have b7 : Below w6.heap.size w6 w7 := by rw [← hw7]; exact (Below.refl _ w6).alloc (Nat.le_refl _) _
    have r10 : w7.heap[w6.heap.size]? = some (.cells #[.int .i64 (live : Int), .int .i64 (Ln : Int), .int .i64 (gen : Int), .int .i64 (first : Int), .slice p4 base.length q4, .slice p5 bs.length q5] 47 (0, 0)) := by rw [← hw7]; exact heap_alloc_new _ _
    rw [hw7] at st2
    clear hw7
    obtain ⟨k10, hk10⟩ : ∃ k10, w6.heap.size = k10 := ⟨_, rfl⟩
    rw [hk10] at r10 st2
    have b67 : Below w6.heap.size w6 w7.drew := b7.trans ((below_drew w7).mono b7.size)
    have b57 : Below w5.heap.size w5 w7.drew := b6.trans (b67.mono b6.size)
    have b27 : Below w2.heap.size w2 w7.drew := HE.out.2.1.trans (b57.mono HE.out.2.1.size)
    have s90 := cell_below b57 c90b
    have s91 := cell_below b57 c91b
    obtain ⟨gl, sL⟩ : ∃ gl, w7.drew.cell? ⟨k9, live, none⟩ = some (.slice (some ⟨gl, 0, none⟩) Ln Ln) := by
      have hlv := HP.out.1.js.lv1
      have e := HP.out.2.2.1
      obtain rfl | rfl : live = 0 ∨ live = 1 := by omega
      · refine ⟨g0, s90.trans ?_⟩
        rw [← HN.out.1, ← HN.out.2.2.1, ← e]
        rfl
      · refine ⟨g1, s91.trans ?_⟩
        rw [← HN.out.2.1, ← HN.out.2.2.1, ← e]
        rfl
    have rd10 : w7.drew.heap[k10]? = _ := r10
    have s100 : w7.drew.cell? ⟨k10, 0, none⟩ = some (.int .i64 (live : Int)) := (cell_of_row _ _ _ _ _ _ rd10).trans rfl
    have s101 : w7.drew.cell? ⟨k10, 1, none⟩ = some (.int .i64 (Ln : Int)) := (cell_of_row _ _ _ _ _ _ rd10).trans rfl
    have s102 : w7.drew.cell? ⟨k10, 2, none⟩ = some (.int .i64 (gen : Int)) := (cell_of_row _ _ _ _ _ _ rd10).trans rfl
    have s103 : w7.drew.cell? ⟨k10, 3, none⟩ = some (.int .i64 (first : Int)) := (cell_of_row _ _ _ _ _ _ rd10).trans rfl
    have s104 : w7.drew.cell? ⟨k10, 4, none⟩ = some (.slice p4 base.length q4) := (cell_of_row _ _ _ _ _ _ rd10).trans rfl
    have s105 : w7.drew.cell? ⟨k10, 5, none⟩ = some (.slice p5 bs.length q5) := (cell_of_row _ _ _ _ _ _ rd10).trans rfl
    have sb0 : w7.drew.cell? ⟨gb, M * 3, none⟩ = _ := cell_below b27 (hbc.out 0 _ rfl)
    have sb1 : w7.drew.cell? ⟨gb, M * 3 + 1, none⟩ = _ := cell_below b27 (hbc.out 1 _ rfl)
    have sb2 : w7.drew.cell? ⟨gb, M * 3 + 2, none⟩ = _ := cell_below b27 (hbc.out 2 _ rfl)
    have k4b := k4.keep (stay_below b67)
    have k5b := k5.keep (stay_below b67)
    have CH := holds_eq (i := live) (good := Ln) (gen := gen) w7.drew (HP.out.1.b0.keep (stay_below b27)) (HP.out.1.b1.keep (stay_below b27)) k4b k5b (by have := HP.out.1.js.gb.n; omega) (by have := HP.out.1.js.f2; omega) (fun x hx => by have := (HP.out.1.js.gs x hx).n; omega) HP.out.1.js.f1 (by have := HP.out.1.js.f2; omega) HN.out.2.2.2.2
    unfold bkA styA at CH
    replace CH := mkHid CH
    have hl0 : (0 : Int) ≤ (live : Int) := by omega
    have hM1 : IntKind.i64.wrap (M : Int) = (M : Int) := by rw [IntKind.wrap_i64]; omega
    have hM2 : IntKind.i64.wrap ((M : Int) + 1 - 1) = (M : Int) := by rw [IntKind.wrap_i64]; omega
    have hM3 : (0 : Int) ≤ (M : Int) := by omega
    have hM4 : (M : Int) < (M : Int) + 1 := by omega
    have hM5 : (M : Int) < ((M + 1 : Nat) : Int) := by omega
    have hl1 : (live : Int) < 2 := by have := HP.out.1.js.lv1; omega
    have hS7 : S9 k9 k10 gb live gl g0 g1 n0 n1 Ln gen first base.length bs.length M la p4 p5 y0 y1 q4 q5 z0 z1 w7.drew := ⟨s90, s91, sL, s100, s101, s102, s103, s104, s105, sb0, sb1, sb2⟩
    have HZ : Hid (∀ w8, Below w7.drew.heap.size w7.drew w8 → S9 k9 k10 gb live gl g0 g1 n0 n1 Ln gen first base.length bs.length M la p4 p5 y0 y1 q4 q5 z0 z1 w8 ∧
        (stD (.pointer (some ⟨W.heap.size, 0, none⟩)) (.agg #[.slice (some ⟨g0, 0, none⟩) n0 n0, .slice (some ⟨g1, 0, none⟩) n1 n1])).run Tryd.prog w8 = .ok () (w8.setRow W.heap.size #[.slice (some ⟨g0, 0, none⟩) n0 n0, .slice (some ⟨g1, 0, none⟩) n1 n1]) ∧
        S9 k9 k10 gb live gl g0 g1 n0 n1 Ln gen first base.length bs.length M la p4 p5 y0 y1 q4 q5 z0 z1 (w8.setRow W.heap.size #[.slice (some ⟨g0, 0, none⟩) n0 n0, .slice (some ⟨g1, 0, none⟩) n1 n1]) ∧
        (stSt (.pointer (some ⟨W.heap.size + 1, 0, none⟩)) (.agg #[.int .i64 (live : Int), .int .i64 (Ln : Int), .int .i64 (gen : Int), .int .i64 (first : Int), .slice p4 base.length q4, .slice p5 bs.length q5])).run Tryd.prog (w8.setRow W.heap.size #[.slice (some ⟨g0, 0, none⟩) n0 n0, .slice (some ⟨g1, 0, none⟩) n1 n1]) = .ok () ((w8.setRow W.heap.size #[.slice (some ⟨g0, 0, none⟩) n0 n0, .slice (some ⟨g1, 0, none⟩) n1 n1]).setRow (W.heap.size + 1) #[.int .i64 (live : Int), .int .i64 (Ln : Int), .int .i64 (gen : Int), .int .i64 (first : Int), .slice p4 base.length q4, .slice p5 bs.length q5]) ∧
        S9 k9 k10 gb live gl g0 g1 n0 n1 Ln gen first base.length bs.length M la p4 p5 y0 y1 q4 q5 z0 z1 ((w8.setRow W.heap.size #[.slice (some ⟨g0, 0, none⟩) n0 n0, .slice (some ⟨g1, 0, none⟩) n1 n1]).setRow (W.heap.size + 1) #[.int .i64 (live : Int), .int .i64 (Ln : Int), .int .i64 (gen : Int), .int .i64 (first : Int), .slice p4 base.length q4, .slice p5 bs.length q5]) ∧
        Hid (∃ w10, ((w8.setRow W.heap.size #[.slice (some ⟨g0, 0, none⟩) n0 n0, .slice (some ⟨g1, 0, none⟩) n1 n1]).setRow (W.heap.size + 1) #[.int .i64 (live : Int), .int .i64 (Ln : Int), .int .i64 (gen : Int), .int .i64 (first : Int), .slice p4 base.length q4, .slice p5 bs.length q5]) = w10 ∧ w10.heap[W.heap.size]? = some (.cells (dkA g0 x.1.1.length g1 x.2.1.length) 26 (0, 0)) ∧ w10.heap[W.heap.size + 1]? = some (.cells (styA live (journalw gen first base bs).length gen first (.slice p4 base.length q4) (.slice p5 bs.length q5)) 47 (0, 0)) ∧ DkP W x (dkA g0 x.1.1.length g1 x.2.1.length) w10 ∧ Ll W.heap.size w10 (.slice p4 base.length q4) base ∧ Lb W.heap.size w10 (.slice p5 bs.length q5) bs)) := by
      intro w8 b8
      have hb1 := HB.out.2.2.2.2.1.trans (HB.out.2.2.2.2.2.1.mono HB.out.2.2.2.2.1.size)
      have hb2 := hb1.trans (HP.out.2.1.mono hb1.size)
      have hb7 := hb2.trans (b27.mono hb2.size)
      have hb8 := hb7.trans (b8.mono hb7.size)
      have zX := HB.out.2.2.2.1
      have rx0 := (hb8.block _ (by omega)).trans HB.out.2.1
      have rx1 := (hb8.block _ (by omega)).trans HB.out.2.2.1
      have n9 : w2.heap.size ≤ k9 := by have := HD.out.2.2.2.2.2.1.size; have := HN.out.2.2.2.1; rw [← this]; exact b23.out.size
      have n10 : w2.heap.size ≤ k10 := by rw [← hk10]; exact Nat.le_trans HE.out.2.1.size b6.size
      have nW2 : W.heap.size + 2 ≤ w2.heap.size := by rw [← zX]; exact hb2.size
      have nW1 : W.heap.size + 2 ≤ w1.heap.size := by rw [← zX]; exact hb1.size
      have nW5 : W.heap.size + 2 ≤ w5.heap.size := Nat.le_trans nW2 HE.out.2.1.size
      have S8 := S9.below hS7 b8
      have rx1b : (w8.setRow W.heap.size #[.slice (some ⟨g0, 0, none⟩) n0 n0, .slice (some ⟨g1, 0, none⟩) n1 n1]).heap[W.heap.size + 1]? = some (.cells zS 47 (0, 0)) := (setRow_other _ _ _ _ (by omega)).trans rx1
      have S8b := S9.set S8 #[.slice (some ⟨g0, 0, none⟩) n0 n0, .slice (some ⟨g1, 0, none⟩) n1 n1] (k := W.heap.size) (by omega) (by omega) (by omega)
      refine ⟨S8, st_D w8 _ zD _ rfl rfl (by simp [Value.oneCell']) rx0, S8b, st_Sr _ _ zS _ rfl rfl (by simp [Value.oneCell']) rx1b, S9.set S8b _ (by omega) (by omega) (by omega), _, rfl, ?_, ?_, ?_, ?_, ?_⟩
      · rw [HN.out.1, HN.out.2.1]
        exact (setRow_other _ _ _ _ (by omega)).trans (setRow_heap _ _ _ _ _ _ rx0)
      · rw [HN.out.2.2.1]
        exact setRow_heap _ _ _ _ _ _ rx1b
      · have b48 := HE.out.1.trans ((b57.trans (b8.mono b57.size)).mono HE.out.1.size)
        have g0z := HD.out.2.2.1
        have g1z := HD.out.2.2.2.1
        refine ⟨g0, g1, rfl, (setRow_other _ _ _ _ (by omega)).trans ((setRow_other _ _ _ _ (by omega)).trans ((b48.block _ (Array.getElem?_eq_some_iff.1 HD.out.1).1).trans HD.out.1)), (setRow_other _ _ _ _ (by omega)).trans ((setRow_other _ _ _ _ (by omega)).trans ((b48.block _ (Array.getElem?_eq_some_iff.1 HD.out.2.1).1).trans HD.out.2.1)), by omega, by omega, HD.out.2.2.2.2.1, ?_⟩
        have bY := HD.out.2.2.2.2.2.2.1
        have q7 := bY.trans (b27.mono bY.size)
        have q8 := q7.trans (b8.mono q7.size)
        exact below_setRow (below_setRow q8 (Nat.le_refl _) _) (by omega) _
      · exact ((k4b.keep (stay_below b8)).keep (fun k c t hk _ _ => (setRow_other _ _ _ _ (by omega)).trans (setRow_other _ _ _ _ (by omega)))).mono (by omega)
      · exact ((k5b.keep (stay_below b8)).keep (fun k c t hk _ _ => (setRow_other _ _ _ _ (by omega)).trans (setRow_other _ _ _ _ (by omega)))).mono (by omega)
    have HF := mkHid (And.intro k4b (And.intro k5b (And.intro b57 b27)))
    clear k4 k5 k4b k5b b6 b7 r10 b67 b57 b27 c90b c91b rd10
    clear s90 s91 sL s100 s101 s102 s103 s104 s105 sb0 sb1 sb2
    go_upto_region 9 with fail
    clear hk10
    go_region_held3 (fun w' => S9 k9 k10 gb live gl g0 g1 n0 n1 Ln gen first base.length bs.length M la p4 p5 y0 y1 q4 q5 z0 z1 w') (first | assumption | exact hS7 | exact hS8 | exact hS9 | exact hS10)
      (first
        | (go_at_call 38; with_reducible refine Calls.mono CH.out ?_; rintro e w8 ⟨rfl, b8⟩; obtain ⟨hS8, st3, hS9, st4, hS10, FIN⟩ := HZ.out w8 b8))
    obtain ⟨w10, hw10, f1, f2, f3, f4, f5⟩ := FIN.out
    rw [hw10]
    clear hS8 st3 hS9 st4 hS10 FIN hw10
    go_wp2_with fail
    refine bodyPost_ret (results_DS rfl _ _ W.heap.size (W.heap.size + 1) _ _ rfl rfl rfl f1 rfl f2) rfl ?_
    have js := HP.out.1.js
    exact ⟨live, gen, first, base, bs, x, _, _, _, rfl, f3, f4, f5, HP.out.2.2.1, HP.out.2.2.2, ⟨js.lv1, js.g1, js.g2, js.f1, js.f2, js.gb, js.gs, js.fit, by have := HP.out.1.q4; omega, HP.out.1.q6, hne.out, by have := HP.out.1.q2; omega⟩⟩
end Dev
end Go.Proofs.YtfimaflglnemdaaDoor
