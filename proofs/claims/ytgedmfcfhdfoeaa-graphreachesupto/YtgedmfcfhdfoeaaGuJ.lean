/- Graphs: Reaches of any graph and any two numbers, the code's and the document's. -/
import Derived.Test.YtgedmfcfhdfoeaaJgE
import Derived.Test.YtgedmfcfhdfoeaaGvE
namespace Go.Proofs.Ytgedmfcfhdfoeaa
open Go.RowKit GM
set_option maxRecDepth 20000
open Classical in
/-- What Reaches answers. -/
noncomputable def rsV (N : Int) (E : List (Int × Int)) (a b : Int) : Bool × Nat :=
  if (chk N E).1 ≠ 0 then (false, (chk N E).1) else if okL N.toNat [a, b] = false then (false, 82) else (decide (∃ d, Bl (ndF N.toNat (nE E)) a.toNat d b.toNat), 0)
def RsP (N : Int) (E : List (Int × Int)) (a b : Int) (w : World) (e : Ending) (w' : World) : Prop := e = .returned (.tuple #[.bool (rsV N E a b).1, .int .i64 ((rsV N E a b).2 : Int)]) ∧ Below w.heap.size w w'
theorem rsV_bad {N : Int} {E : List (Int × Int)} {a b : Int} (h : (chk N E).1 ≠ 0) : rsV N E a b = (false, (chk N E).1) := by unfold rsV; rw [if_pos h]
theorem rsV_no {N : Int} {E : List (Int × Int)} {a b : Int} (h : (chk N E).1 = 0) (h2 : okL N.toNat [a, b] = false) : rsV N E a b = (false, 82) := by unfold rsV; rw [if_neg (by omega), if_pos h2]
open Classical in
theorem rsV_ok {n : Nat} {F : List (Nat × Nat)} {x y : Nat} {r : Bool} (h : (chk (n : Int) (zE F)).1 = 0) (hx : x < n) (hy : y < n) (hr : r = true ↔ ∃ d, Bl (ndF n F) x d y) : rsV (n : Int) (zE F) (x : Int) (y : Int) = (r, 0) := by
  have ho : okL n [(x : Int), (y : Int)] = true := by simp [okL, hx, hy]
  unfold rsV
  rw [if_neg (by omega), Int.toNat_natCast, if_neg (by rw [ho]; decide), nE_zE, Int.toNat_natCast, Int.toNat_natCast]
  congr 1
  cases r with
  | true => exact decide_eq_true (hr.1 rfl)
  | false => exact decide_eq_false fun k => by have := hr.2 k; cases this
theorem ok_two {n : Nat} {a b : Int} (h : okL n [a, b] = true) : ∃ x y : Nat, a = (x : Int) ∧ b = (y : Int) ∧ x < n ∧ y < n := by
  unfold okL at h
  simp only [List.all_cons, List.all_nil, Bool.and_true, Bool.and_eq_true, decide_eq_true_eq] at h
  exact ⟨a.toNat, b.toNat, by omega, by omega, by omega, by omega⟩
theorem ia_two (w : World) (a b : Int) : Ia w.heap.size (.slice (some ⟨w.heap.size, 0, none⟩) 2 2) [a, b] (w.alloc (.cells #[.int .i64 a, .int .i64 b] 3)) := by
  refine ⟨_, 2, rfl, fun _ => ⟨0, rfl, by simp, fun j hj => ?_⟩⟩
  have r := heap_alloc_new w (.cells #[.int .i64 a, .int .i64 b] 3)
  have hj2 : j < 2 := hj
  rcases (by omega : j = 0 ∨ j = 1) with rfl | rfl
  · exact (cell_of_row _ _ _ _ _ _ r).trans rfl
  · exact (cell_of_row _ _ _ _ _ _ r).trans rfl
/-- Where checkWith refuses. -/
def CkE (N : Int) (E : List (Int × Int)) (l : List Int) (e0 : Nat) : Prop := e0 ≠ 0 ∧ ∀ (v rv : Value) (g : Nat) (W : World), El v E W → Ia g rv l W → l.length < 1000000000 → Calls Try.prog 30 #[grV N v, rv] W (CwP e0 W)
theorem cke_bad {N : Int} {E : List (Int × Int)} {l : List Int} (h : (chk N E).1 ≠ 0) : CkE N E l (chk N E).1 := ⟨h, fun v rv _ W hv _ _ => checkWith_bad N E v rv W hv h⟩
theorem cke_no {n : Nat} {F : List (Nat × Nat)} {l : List Int} (h : (chk (n : Int) (zE F)).1 = 0) (h2 : okL n l = false) : CkE (n : Int) (zE F) l 82 := ⟨by decide, fun v rv g W hv hr hl => by
  have := checkWith_gen n F v W hv h hr hl
  unfold ckE at this
  rwa [if_neg (by rw [h2]; decide)] at this⟩
set_option maxRecDepth 100000 in
set_option maxHeartbeats 1600000 in
theorem reachesE_any (N : Int) (E : List (Int × Int)) (a b : Int) (v : Value) (w : World) (hv : El v E w) {e0 : Nat} (hk : CkE N E [a, b] e0) :
    Calls Try.prog 18 #[grV N v, .int .i64 a, .int .i64 b] w fun e w' => e = .returned (.tuple #[.bool false, .int .i64 (e0 : Int)]) ∧ Below w.heap.size w w' := by
  obtain ⟨W0, hW0⟩ : ∃ W0, w.alloc (.cells #[.int .i64 N, v] 24) = W0 := ⟨_, rfl⟩
  have b0 : Below w.heap.size w W0 := by rw [← hW0]; exact (Below.refl _ w).alloc (Nat.le_refl _) _
  have r0 : W0.heap[w.heap.size]? = some (.cells #[.int .i64 N, v] 24 (0, 0)) := by rw [← hW0]; exact heap_alloc_new _ _
  obtain ⟨W1, hW1⟩ : ∃ W1, W0.alloc (.cells #[.int .i64 a, .int .i64 b] 3) = W1 := ⟨_, rfl⟩
  have b1 : Below W0.heap.size W0 W1 := by rw [← hW1]; exact (Below.refl _ W0).alloc (Nat.le_refl _) _
  have b01 := b0.trans (b1.mono b0.size)
  have s0 : W0.heap.size = w.heap.size + 1 := by rw [← hW0]; simp
  have CC := hk.2 v (.slice (some ⟨W0.heap.size, 0, none⟩) 2 2) W0.heap.size W1 (hv.below b01) (by rw [← hW1]; exact ia_two W0 a b) (by show 2 < 1000000000; omega)
  obtain ⟨kg, hkg⟩ : ∃ k, w.heap.size = k := ⟨_, rfl⟩
  obtain ⟨kb, hkb⟩ : ∃ k, W0.heap.size = k := ⟨_, rfl⟩
  have c0 : W1.cell? ⟨kg, 0, none⟩ = some (.int .i64 N) := by rw [← hkg]; exact cell_belowX b1 ((cell_of_row _ _ _ _ _ _ r0).trans rfl)
  have c1 : W1.cell? ⟨kg, 1, none⟩ = some v := by rw [← hkg]; exact cell_belowX b1 ((cell_of_row _ _ _ _ _ _ r0).trans rfl)
  have hWW : Hid ((w.alloc (.cells #[.int .i64 N, v] 24)).alloc (.cells #[.int .i64 a, .int .i64 b] 3) = W1) := by rw [hW0]; exact hW1
  have hk1 : kg + 1 = kb := by omega
  have c0r := c0
  have c1r := c1
  rw [← hWW.out] at c0r c1r
  rw [hkb] at CC
  have n0 : ((e0 : Int) == 0) = false := by have := hk.1; simpa using this
  have n1 : ¬ ((e0 : Int) = 0) := by have := hk.1; omega
  have HB := mkHid b01
  unfold grV at CC ⊢
  clear hW0 b0 s0 r0 hW1 b1 b01 hv hkb hk
  go_enter Try.func18, Try.ntmps18
  go_wp2_with fail
  try rw [hkg]
  try rw [hk1]
  try rw [hWW.out]
  refine Calls.mono CC ?_
  rintro e W2 ⟨rfl, b12⟩
  have HB2 := mkHid (HB.out.trans (b12.mono HB.out.size))
  clear CC c0 c1 c0r c1r b12
  go_wp2_with fail
  go_ret2
  exact ⟨rfl, hkg ▸ HB2.out⟩
theorem reachesC_all (N : Int) (E : List (Int × Int)) (a b : Int) (v : Value) (w : World) (hv : El v E w) :
    Calls Try.prog 18 #[grV N v, .int .i64 a, .int .i64 b] w (RsP N E a b w) := by
  by_cases h : (chk N E).1 = 0
  · obtain ⟨n, F, rfl, hn, rfl, hF, hl⟩ := chk_ok h
    cases h2 : okL n [a, b] with
    | false =>
      refine (reachesE_any (n : Int) (zE F) a b v w hv (cke_no h h2)).mono ?_
      rintro e w' ⟨rfl, hb⟩
      exact ⟨by rw [rsV_no h (by rw [Int.toNat_natCast]; exact h2)], hb⟩
    | true =>
      obtain ⟨x, y, rfl, rfl, hx, hy⟩ := ok_two h2
      refine (reaches_any n hn F hF hl v w hv h x y hx hy).mono ?_
      rintro e w' ⟨hb, r, rfl, hr⟩
      exact ⟨by rw [rsV_ok h hx hy hr]; first | done | rfl, hb⟩
  · refine (reachesE_any N E a b v w hv (cke_bad h)).mono ?_
    rintro e w' ⟨rfl, hb⟩
    exact ⟨by rw [rsV_bad h], hb⟩
set_option maxRecDepth 100000 in
set_option maxHeartbeats 3200000 in
theorem reachesR_all (N : Int) (E : List (Int × Int)) (a b : Int) (v : Value) (w : World) (hv : El v E w) :
    Calls Try.prog 19 #[grV N v, .int .i64 a, .int .i64 b] w (RsP N E a b w) := by
  obtain ⟨kG, hkG⟩ : ∃ k, w.heap.size = k := ⟨_, rfl⟩
  obtain ⟨W0, hW0⟩ : ∃ W0, w.alloc (.cells #[.int .i64 N, v] 24) = W0 := ⟨_, rfl⟩
  have b0 : Below w.heap.size w W0 := by rw [← hW0]; exact (Below.refl _ w).alloc (Nat.le_refl _) _
  have r0 : W0.heap[kG]? = some (.cells #[.int .i64 N, v] 24 (0, 0)) := by rw [← hW0, ← hkG]; exact heap_alloc_new _ _
  have C1 := checkR_any N E v W0 (hv.below b0)
  have l0 : W0.cell? ⟨kG, 0, none⟩ = some (.int .i64 N) := (cell_of_row _ _ _ _ _ _ r0).trans rfl
  have l1 : W0.cell? ⟨kG, 1, none⟩ = some v := (cell_of_row _ _ _ _ _ _ r0).trans rfl
  obtain ⟨oo, cc, hvv, -, -⟩ := hv.form
  have HV := mkHid (And.intro hv b0)
  obtain ⟨e0, he0⟩ : ∃ e, (chk N E).1 = e := ⟨_, rfl⟩
  obtain ⟨e1, he1⟩ : ∃ e, (chk N E).2 = e := ⟨_, rfl⟩
  rw [he0, he1] at C1
  have HE := mkHid he0
  unfold grV at C1 ⊢
  clear hv b0 r0 he0 he1 hvv
  go_enter Try.func19, Try.ntmps19
  go_wp2_with fail
  try rw [hkG]
  try rw [hW0]
  refine C1.mono ?_
  rintro e W1 ⟨rfl, b1⟩
  have l2 := cell_belowX b1 l0
  have l3 := cell_belowX b1 l1
  have HB1 := mkHid (HV.out.2.trans (b1.mono HV.out.2.size))
  clear C1 b1 l0 l1 hW0
  by_cases h0 : e0 = 0
  · subst h0
    obtain ⟨n, F, rfl, hn, rfl, hF, hl⟩ := chk_ok HE.out
    obtain ⟨kB, hkB⟩ : ∃ k, W1.heap.size = k := ⟨_, rfl⟩
    obtain ⟨W2, hW2⟩ : ∃ W2, W1.alloc (.cells #[.int .i64 a, .int .i64 b] 3) = W2 := ⟨_, rfl⟩
    have b2 : Below W1.heap.size W1 W2 := by rw [← hW2]; exact (Below.refl _ W1).alloc (Nat.le_refl _) _
    have C2 := vertices_any (v := v) W2 (N := n) (g := kB) (rv := .slice (some ⟨kB, 0, none⟩) 2 2) (l := [a, b]) hn (by rw [← hkB, ← hW2]; exact ia_two W1 a b) (by show 2 < 1000000000; omega)
    have l4 := cell_belowX b2 l2
    have l5 := cell_belowX b2 l3
    obtain ⟨ok, hok⟩ : ∃ o, okL n [a, b] = o := ⟨_, rfl⟩
    have HK := mkHid (And.intro hok (And.intro hn (And.intro hF (And.intro hl b2))))
    unfold grV at C2
    clear hn hF hl b2 hok
    dsimp only
    go_upto_region 4 with fail
    go_wp2_with fail
    try rw [hkB]
    try rw [hW2]
    refine C2.mono ?_
    rintro e W3 ⟨rfl, b3⟩
    have l6 := cell_belowX b3 l4
    have l7 := cell_belowX b3 l5
    rw [HK.out.1]
    have b13 : Below w.heap.size w W3 := HB1.out.trans ((HK.out.2.2.2.2.trans (b3.mono HK.out.2.2.2.2.size)).mono HB1.out.size)
    have HB3 := mkHid b13
    clear C2 b3 b13 l4 l5 l2 l3 hW2
    cases ok
    · go_wp2_with fail
      go_ret2
      exact ⟨by rw [rsV_no HE.out (by rw [Int.toNat_natCast]; exact HK.out.1)]; rfl, HB3.out⟩
    · obtain ⟨x, y, rfl, rfl, hx, hy⟩ := ok_two HK.out.1
      have C4 := needsR_any n HK.out.2.1 F HK.out.2.2.1 HK.out.2.2.2.1 v W3 (HV.out.1.below HB3.out)
      have HXY := mkHid (And.intro hx hy)
      unfold grV at C4
      clear hx hy
      go_wp2_with fail
      refine C4.mono ?_
      rintro e W4 ⟨g4, V4, rfl, R4, b4, -⟩
      obtain ⟨kC, hkC⟩ : ∃ k, W4.heap.size = k := ⟨_, rfl⟩
      obtain ⟨W5, hW5⟩ : ∃ W5, W4.alloc (.cells #[.int .i64 (x : Int)] 3) = W5 := ⟨_, rfl⟩
      have b5 : Below W4.heap.size W4 W5 := by rw [← hW5]; exact (Below.refl _ W4).alloc (Nat.le_refl _) _
      have C5 := far_any W5 (g := g4) (N := n) (g0 := kC) (V := V4) (F := ndF n F) (rv := .slice (some ⟨kC, 0, none⟩) 1 1) (S := [x]) HK.out.2.1 (R4.below b5) (fun v _ x hx => ndF_lt v x hx) ndF_len (by rw [← hkC, ← hW5]; exact il_one W4 x) (fun z hz => by rw [List.mem_singleton.1 hz]; exact HXY.out.1) (by show 1 < 1000000000; omega)
      have HB5 := mkHid (HB3.out.trans ((b4.trans (b5.mono b4.size)).mono HB3.out.size))
      clear C4 R4 b4 b5 l6 l7
      go_wp2_with fail
      try rw [hkC]
      try rw [hW5]
      refine C5.mono ?_
      rintro e W6 ⟨gD, f, dl, rfl, b6, q1, q2, q3, q4, -⟩
      have cd : W6.cell? ⟨gD, y, none⟩ = some (.int .i64 (dV (f y))) := by
        rw [← q3 y HXY.out.2]
        exact (cell_of_row _ _ _ _ _ _ q1).trans (izU_get _ _ (by rw [q2]; exact HXY.out.2))
      have y0 := geI y
      have y1 := ltI HXY.out.2
      have HB6 := mkHid (HB5.out.trans (b6.mono HB5.out.size))
      have HD := mkHid (q4 y)
      clear C5 b6 q1 q2 q3 q4 hW5
      cases hf : f y with
      | none =>
        rw [hf] at cd
        have cd' : W6.cell? ⟨gD, y, none⟩ = some (.int .i64 (-1)) := cd
        have HR : Hid (rsV (n : Int) (zE F) (x : Int) (y : Int) = (false, 0)) := rsV_ok HE.out HXY.out.1 HXY.out.2 ⟨fun k => (by cases k), fun ⟨d, hd⟩ => by
          obtain ⟨k, -, hk⟩ := hd.ds
          have := (HD.out k).2 (dsS_one.2 hk)
          rw [hf] at this
          cases this⟩
        clear cd hf
        go_wp2_with fail
        go_ret2
        exact ⟨by rw [HR.out]; rfl, HB6.out⟩
      | some k =>
        rw [hf] at cd
        have cd' : W6.cell? ⟨gD, y, none⟩ = some (.int .i64 (k : Int)) := cd
        have HR : Hid (rsV (n : Int) (zE F) (x : Int) (y : Int) = (true, 0)) := rsV_ok HE.out HXY.out.1 HXY.out.2 ⟨fun _ => ⟨k, (dsS_one.1 ((HD.out k).1 hf)).1⟩, fun _ => rfl⟩
        clear cd hf
        go_wp2_with fail
        go_ret2
        exact ⟨by rw [HR.out]; simp, HB6.out⟩
  · have n0 : ((e0 : Int) == 0) = false := by simpa using h0
    have n1 : ¬ ((e0 : Int) = 0) := by omega
    have HR : Hid (rsV N E a b = (false, e0)) := by
      have := rsV_bad (N := N) (E := E) (a := a) (b := b) (by rw [HE.out]; exact h0)
      rwa [HE.out] at this
    clear h0
    dsimp only
    go_wp2_with fail
    go_ret2
    exact ⟨by rw [HR.out]; rfl, HB1.out⟩
end Go.Proofs.Ytgedmfcfhdfoeaa
