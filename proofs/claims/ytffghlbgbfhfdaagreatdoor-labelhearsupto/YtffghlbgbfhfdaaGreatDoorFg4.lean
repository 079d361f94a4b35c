/- checkFinger. -/
import Derived.Test.YtffghlbgbfhfdaaGreatDoorFgJ
namespace Go.Proofs.YtffghlbgbfhfdaaGreatDoor
open Go.RowKit Go.Shelf Go.Sort
/-- A finger that lies in a block of its own. -/
structure Fsq (f : Fg) (w W : World) : Prop where
  bel : Below w.heap.size w W
  row : W.heap[w.heap.size]? = some (.cells (fing f) 26 (0, 0))
  tk : Tk W
  ls : Ls f.v f.L W
theorem Fsq.below {f : Fg} {w W W' : World} (h : Fsq f w W) (b : Below W.heap.size W W') : Fsq f w W' :=
  ⟨h.bel.trans (b.mono h.bel.size), (b.block _ (Array.getElem?_eq_some_iff.1 h.row).1).trans h.row, h.tk.below b h.tk.sz, h.ls.below b⟩
theorem fst_new (f : Fg) (w : World) (hk : Tk w) (hv : Ls f.v f.L w) : Fsq f w (w.alloc (.cells (fing f) 26)) :=
  have bel : Below w.heap.size w (w.alloc (.cells (fing f) 26)) := (Below.refl _ w).alloc (Nat.le_refl _) _
  ⟨bel, heap_alloc_new w _, hk.below bel hk.sz, hv.below bel⟩
attribute [local go_sem ↓] toFl
set_option maxRecDepth 100000 in
set_option maxHeartbeats 1000000 in
theorem chk_0 (f : Fg) (hk1 : ¬ (1 ≤ f.k ∧ f.k ≤ 4)) (w : World) :
    Calls Tryz.prog 15 #[.agg (fing f)] w fun e w' => e = .returned (.int .i64 ((chkV f : Nat) : Int)) ∧ Below w.heap.size w w' := by
  have f0 : (fing f)[0]? = some (.int .i64 f.k) := fing_head f 0 (by omega)
  have hv : Hid (chkV f = 23) := by show _ = _; unfold chkV; rw [if_pos hk1]
  by_cases h1 : f.k ≤ 0
  · go_enter Tryz.func15, Tryz.ntmps15
    go_wp2_with fail
    go_ret
    exact ⟨by rw [hv.out]; rfl, (Below.refl _ w).alloc (Nat.le_refl _) _⟩
  · have h2 : 5 ≤ f.k := by omega
    clear hk1
    go_enter Tryz.func15, Tryz.ntmps15
    go_wp2_with fail
    go_ret
    exact ⟨by rw [hv.out]; rfl, (Below.refl _ w).alloc (Nat.le_refl _) _⟩
set_option maxRecDepth 100000 in
set_option maxHeartbeats 2000000 in
theorem chk_1 (f : Fg) (hk1 : f.k = 1) (w : World) (hk : Tk w) (hv0 : Ls f.v f.L w) :
    Calls Tryz.prog 15 #[.agg (fing f)] w fun e w' => e = .returned (.int .i64 ((chkV f : Nat) : Int)) ∧ Below w.heap.size w w' := by
  obtain ⟨W0, hW0⟩ : ∃ W0, w.alloc (.cells (fing f) 26) = W0 := ⟨_, rfl⟩
  have F0 : Fsq f w W0 := by rw [← hW0]; exact fst_new f w hk hv0
  obtain ⟨o, c, hvv, -, -⟩ := hv0.form
  have chkE : chkV f = if unV f = true then 31 else if okN f.nm ≠ 0 then okN f.nm else if f.k = 3 ∧ okN f.out ≠ 0 then okN f.out else if ¬ (0 ≤ f.ix ∧ f.ix < 64) then 2 else refV f.L := by
    show (if _ then _ else _) = _
    rw [if_neg (by rw [hk1]; omega)]
  have CE : Hid _ := chkE
  have HK1 : Hid (f.k = 1) := hk1
  have HF0 : Hid (Fsq f w W0) := F0
  have ld := run_ldF W0 w.heap.size f F0.row
  have CU : Hid _ := un_1 f o c hvv hk1 W0 F0.tk
  obtain ⟨q0, q1, q2, q3, q4, q37⟩ := fing_cells F0.row
  rw [hk1] at q0
  rw [hvv] at q1
  have HW0 : Hid (w.alloc (.cells (fing f) 26) = W0) := hW0
  rw [← hW0] at q0 q1 q2 q3 q4 q37 ld
  obtain ⟨u, hu⟩ : ∃ u, u = unV f := ⟨_, rfl⟩
  rw [← hu] at CU
  have HU : Hid (u = unV f) := hu
  clear hk hv0 hW0 F0 chkE hu hk1
  go_enter Tryz.func15, Tryz.ntmps15
  go_wp2_with fail
  rw [HW0.out]
  refine Calls.mono CU.out ?_
  rintro e W1 ⟨rfl, b1⟩
  have HF1 : Hid (Fsq f w W1) := HF0.out.below b1
  clear CU b1 q0 q1 q2 q3 q4 q37 ld
  cases u with
  | true =>
    have hv : Hid (chkV f = 31) := by show _ = _; rw [CE.out, if_pos HU.out.symm]
    go_wp2
    go_ret
    exact ⟨by rw [hv.out]; rfl, HF1.out.bel⟩
  | false =>
    have hun : ¬ unV f = true := by rw [← HU.out]; simp
    have chkE : chkV f = if okN f.nm ≠ 0 then okN f.nm else if f.k = 3 ∧ okN f.out ≠ 0 then okN f.out else if ¬ (0 ≤ f.ix ∧ f.ix < 64) then 2 else refV f.L := by rw [CE.out, if_neg hun]
    clear CE hun
    have CE : Hid _ := chkE
    clear chkE
    obtain ⟨q0, q1, q2, q3, q4, q37⟩ := fing_cells HF1.out.row
    rw [HK1.out] at q0
    rw [hvv] at q1
    obtain ⟨E, hE⟩ : ∃ E, E = okN f.nm := ⟨_, rfl⟩
    obtain ⟨F, C⟩ := check_n f.nm E hE W1
    have HC : Hid _ := C
    have HE : Hid (E = okN f.nm) := hE
    clear hE C
    go_wp2_with fail
    refine Calls.mono HC.out ?_
    rintro e W2 ⟨rfl, b2⟩
    have HF2 : Hid (Fsq f w W2) := HF1.out.below b2
    clear HC b2 q0 q1 q2 q3 q4 q37
    by_cases h0 : E = 0
    · have chkE : chkV f = if f.k = 3 ∧ okN f.out ≠ 0 then okN f.out else if ¬ (0 ≤ f.ix ∧ f.ix < 64) then 2 else refV f.L := by rw [CE.out, if_neg (by rw [← HE.out]; omega)]
      subst h0
      clear CE
      obtain ⟨q0, q1, q2, q3, q4, q37⟩ := fing_cells HF2.out.row
      rw [HK1.out] at q0
      rw [hvv] at q1
      have ku := HF2.out.tk.u1
      have CE : Hid (chkV f = if ¬ (0 ≤ f.ix ∧ f.ix < 64) then 2 else refV f.L) := by show _ = _; rw [chkE, if_neg (by rw [HK1.out]; omega)]
      clear chkE
      have hb4 : (bits BinOp.and IntKind.i64 1 4 != 0) = false := by decide +kernel
      by_cases hi1 : f.ix < 0
      · have hv : Hid (chkV f = 2) := by show _ = _; rw [CE.out]; rw [if_pos (by omega)]
        go_wp2
        go_ret
        exact ⟨by rw [hv.out]; rfl, HF2.out.bel⟩
      · by_cases hi2 : 64 ≤ f.ix
        · have hv : Hid (chkV f = 2) := by show _ = _; rw [CE.out]; rw [if_pos (by omega)]
          go_wp2
          go_ret
          exact ⟨by rw [hv.out]; rfl, HF2.out.bel⟩
        · have hv : Hid (chkV f = refV f.L) := by show _ = _; rw [CE.out]; rw [if_neg (by omega)]
          have CR : Hid _ := refs_any f.L f.hn f.v W2 HF2.out.ls
          rw [hvv] at CR
          go_wp2_with fail
          refine Calls.mono CR.out ?_
          rintro e W5 ⟨rfl, b5⟩
          have HF5 : Hid (Fsq f w W5) := HF2.out.below b5
          clear b5 CR q0 q1 q2 q3 q4 q37
          go_wp2
          go_ret
          exact ⟨by rw [hv.out]; rfl, HF5.out.bel⟩
    · have hv : Hid (chkV f = E) := by show _ = _; rw [CE.out, if_pos (by rw [← HE.out]; omega), HE.out]
      have h0' : ¬ ((E : Int) = 0) := by omega
      go_wp2
      go_ret
      exact ⟨by rw [hv.out]; rfl, HF2.out.bel⟩
set_option maxRecDepth 100000 in
set_option maxHeartbeats 2000000 in
theorem chk_2 (f : Fg) (hk1 : f.k = 2) (w : World) (hk : Tk w) (hv0 : Ls f.v f.L w) :
    Calls Tryz.prog 15 #[.agg (fing f)] w fun e w' => e = .returned (.int .i64 ((chkV f : Nat) : Int)) ∧ Below w.heap.size w w' := by
  obtain ⟨W0, hW0⟩ : ∃ W0, w.alloc (.cells (fing f) 26) = W0 := ⟨_, rfl⟩
  have F0 : Fsq f w W0 := by rw [← hW0]; exact fst_new f w hk hv0
  obtain ⟨o, c, hvv, -, -⟩ := hv0.form
  have chkE : chkV f = if unV f = true then 31 else if okN f.nm ≠ 0 then okN f.nm else if f.k = 3 ∧ okN f.out ≠ 0 then okN f.out else if ¬ (0 ≤ f.ix ∧ f.ix < 64) then 2 else refV f.L := by
    show (if _ then _ else _) = _
    rw [if_neg (by rw [hk1]; omega)]
  have CE : Hid _ := chkE
  have HK1 : Hid (f.k = 2) := hk1
  have HF0 : Hid (Fsq f w W0) := F0
  have ld := run_ldF W0 w.heap.size f F0.row
  have CU : Hid _ := un_2 f o c hvv hk1 W0 F0.tk
  obtain ⟨q0, q1, q2, q3, q4, q37⟩ := fing_cells F0.row
  rw [hk1] at q0
  rw [hvv] at q1
  have HW0 : Hid (w.alloc (.cells (fing f) 26) = W0) := hW0
  rw [← hW0] at q0 q1 q2 q3 q4 q37 ld
  obtain ⟨u, hu⟩ : ∃ u, u = unV f := ⟨_, rfl⟩
  rw [← hu] at CU
  have HU : Hid (u = unV f) := hu
  clear hk hv0 hW0 F0 chkE hu hk1
  go_enter Tryz.func15, Tryz.ntmps15
  go_wp2_with fail
  rw [HW0.out]
  refine Calls.mono CU.out ?_
  rintro e W1 ⟨rfl, b1⟩
  have HF1 : Hid (Fsq f w W1) := HF0.out.below b1
  clear CU b1 q0 q1 q2 q3 q4 q37 ld
  cases u with
  | true =>
    have hv : Hid (chkV f = 31) := by show _ = _; rw [CE.out, if_pos HU.out.symm]
    go_wp2
    go_ret
    exact ⟨by rw [hv.out]; rfl, HF1.out.bel⟩
  | false =>
    have hun : ¬ unV f = true := by rw [← HU.out]; simp
    have chkE : chkV f = if okN f.nm ≠ 0 then okN f.nm else if f.k = 3 ∧ okN f.out ≠ 0 then okN f.out else if ¬ (0 ≤ f.ix ∧ f.ix < 64) then 2 else refV f.L := by rw [CE.out, if_neg hun]
    clear CE hun
    have CE : Hid _ := chkE
    clear chkE
    obtain ⟨q0, q1, q2, q3, q4, q37⟩ := fing_cells HF1.out.row
    rw [HK1.out] at q0
    rw [hvv] at q1
    obtain ⟨E, hE⟩ : ∃ E, E = okN f.nm := ⟨_, rfl⟩
    obtain ⟨F, C⟩ := check_n f.nm E hE W1
    have HC : Hid _ := C
    have HE : Hid (E = okN f.nm) := hE
    clear hE C
    go_wp2_with fail
    refine Calls.mono HC.out ?_
    rintro e W2 ⟨rfl, b2⟩
    have HF2 : Hid (Fsq f w W2) := HF1.out.below b2
    clear HC b2 q0 q1 q2 q3 q4 q37
    by_cases h0 : E = 0
    · have chkE : chkV f = if f.k = 3 ∧ okN f.out ≠ 0 then okN f.out else if ¬ (0 ≤ f.ix ∧ f.ix < 64) then 2 else refV f.L := by rw [CE.out, if_neg (by rw [← HE.out]; omega)]
      subst h0
      clear CE
      obtain ⟨q0, q1, q2, q3, q4, q37⟩ := fing_cells HF2.out.row
      rw [HK1.out] at q0
      rw [hvv] at q1
      have ku := HF2.out.tk.u2
      have CE : Hid (chkV f = if ¬ (0 ≤ f.ix ∧ f.ix < 64) then 2 else refV f.L) := by show _ = _; rw [chkE, if_neg (by rw [HK1.out]; omega)]
      clear chkE
      have hb4 : (bits BinOp.and IntKind.i64 3 4 != 0) = false := by decide +kernel
      by_cases hi1 : f.ix < 0
      · have hv : Hid (chkV f = 2) := by show _ = _; rw [CE.out]; rw [if_pos (by omega)]
        go_wp2
        go_ret
        exact ⟨by rw [hv.out]; rfl, HF2.out.bel⟩
      · by_cases hi2 : 64 ≤ f.ix
        · have hv : Hid (chkV f = 2) := by show _ = _; rw [CE.out]; rw [if_pos (by omega)]
          go_wp2
          go_ret
          exact ⟨by rw [hv.out]; rfl, HF2.out.bel⟩
        · have hv : Hid (chkV f = refV f.L) := by show _ = _; rw [CE.out]; rw [if_neg (by omega)]
          have CR : Hid _ := refs_any f.L f.hn f.v W2 HF2.out.ls
          rw [hvv] at CR
          go_wp2_with fail
          refine Calls.mono CR.out ?_
          rintro e W5 ⟨rfl, b5⟩
          have HF5 : Hid (Fsq f w W5) := HF2.out.below b5
          clear b5 CR q0 q1 q2 q3 q4 q37
          go_wp2
          go_ret
          exact ⟨by rw [hv.out]; rfl, HF5.out.bel⟩
    · have hv : Hid (chkV f = E) := by show _ = _; rw [CE.out, if_pos (by rw [← HE.out]; omega), HE.out]
      have h0' : ¬ ((E : Int) = 0) := by omega
      go_wp2
      go_ret
      exact ⟨by rw [hv.out]; rfl, HF2.out.bel⟩
set_option maxRecDepth 100000 in
set_option maxHeartbeats 2000000 in
theorem chk_3 (f : Fg) (hk1 : f.k = 3) (w : World) (hk : Tk w) (hv0 : Ls f.v f.L w) :
    Calls Tryz.prog 15 #[.agg (fing f)] w fun e w' => e = .returned (.int .i64 ((chkV f : Nat) : Int)) ∧ Below w.heap.size w w' := by
  obtain ⟨W0, hW0⟩ : ∃ W0, w.alloc (.cells (fing f) 26) = W0 := ⟨_, rfl⟩
  have F0 : Fsq f w W0 := by rw [← hW0]; exact fst_new f w hk hv0
  obtain ⟨o, c, hvv, -, -⟩ := hv0.form
  have chkE : chkV f = if unV f = true then 31 else if okN f.nm ≠ 0 then okN f.nm else if f.k = 3 ∧ okN f.out ≠ 0 then okN f.out else if ¬ (0 ≤ f.ix ∧ f.ix < 64) then 2 else refV f.L := by
    show (if _ then _ else _) = _
    rw [if_neg (by rw [hk1]; omega)]
  have CE : Hid _ := chkE
  have HK1 : Hid (f.k = 3) := hk1
  have HF0 : Hid (Fsq f w W0) := F0
  have ld := run_ldF W0 w.heap.size f F0.row
  have CU : Hid _ := un_3 f o c hvv hk1 W0 F0.tk
  obtain ⟨q0, q1, q2, q3, q4, q37⟩ := fing_cells F0.row
  rw [hk1] at q0
  rw [hvv] at q1
  have HW0 : Hid (w.alloc (.cells (fing f) 26) = W0) := hW0
  rw [← hW0] at q0 q1 q2 q3 q4 q37 ld
  obtain ⟨u, hu⟩ : ∃ u, u = unV f := ⟨_, rfl⟩
  rw [← hu] at CU
  have HU : Hid (u = unV f) := hu
  clear hk hv0 hW0 F0 chkE hu hk1
  go_enter Tryz.func15, Tryz.ntmps15
  go_wp2_with fail
  rw [HW0.out]
  refine Calls.mono CU.out ?_
  rintro e W1 ⟨rfl, b1⟩
  have HF1 : Hid (Fsq f w W1) := HF0.out.below b1
  clear CU b1 q0 q1 q2 q3 q4 q37 ld
  cases u with
  | true =>
    have hv : Hid (chkV f = 31) := by show _ = _; rw [CE.out, if_pos HU.out.symm]
    go_wp2
    go_ret
    exact ⟨by rw [hv.out]; rfl, HF1.out.bel⟩
  | false =>
    have hun : ¬ unV f = true := by rw [← HU.out]; simp
    have chkE : chkV f = if okN f.nm ≠ 0 then okN f.nm else if f.k = 3 ∧ okN f.out ≠ 0 then okN f.out else if ¬ (0 ≤ f.ix ∧ f.ix < 64) then 2 else refV f.L := by rw [CE.out, if_neg hun]
    clear CE hun
    have CE : Hid _ := chkE
    clear chkE
    obtain ⟨q0, q1, q2, q3, q4, q37⟩ := fing_cells HF1.out.row
    rw [HK1.out] at q0
    rw [hvv] at q1
    obtain ⟨E, hE⟩ : ∃ E, E = okN f.nm := ⟨_, rfl⟩
    obtain ⟨F, C⟩ := check_n f.nm E hE W1
    have HC : Hid _ := C
    have HE : Hid (E = okN f.nm) := hE
    clear hE C
    go_wp2_with fail
    refine Calls.mono HC.out ?_
    rintro e W2 ⟨rfl, b2⟩
    have HF2 : Hid (Fsq f w W2) := HF1.out.below b2
    clear HC b2 q0 q1 q2 q3 q4 q37
    by_cases h0 : E = 0
    · have chkE : chkV f = if f.k = 3 ∧ okN f.out ≠ 0 then okN f.out else if ¬ (0 ≤ f.ix ∧ f.ix < 64) then 2 else refV f.L := by rw [CE.out, if_neg (by rw [← HE.out]; omega)]
      subst h0
      clear CE
      obtain ⟨q0, q1, q2, q3, q4, q37⟩ := fing_cells HF2.out.row
      rw [HK1.out] at q0
      rw [hvv] at q1
      have ku := HF2.out.tk.u3
      have hb4 : (bits BinOp.and IntKind.i64 4 4 != 0) = true := by decide +kernel
      have CE : Hid _ := chkE
      clear chkE
      obtain ⟨E, hE⟩ : ∃ E, E = okN f.out := ⟨_, rfl⟩
      obtain ⟨F, C⟩ := check_n f.out E hE W2
      have HC : Hid _ := C
      have HE2 : Hid (E = okN f.out) := hE
      clear hE C
      go_wp2_with fail
      refine Calls.mono HC.out ?_
      rintro e W3 ⟨rfl, b3⟩
      have HF3 : Hid (Fsq f w W3) := HF2.out.below b3
      clear HC b3 q0 q1 q2 q3 q4 q37 ku
      by_cases h0 : E = 0
      · have chkE : chkV f = if ¬ (0 ≤ f.ix ∧ f.ix < 64) then 2 else refV f.L := by rw [CE.out, if_neg (by rw [← HE2.out]; omega)]
        clear CE
        have CE : Hid _ := chkE
        clear chkE
        subst h0
        obtain ⟨q0, q1, q2, q3, q4, q37⟩ := fing_cells HF3.out.row
        rw [HK1.out] at q0
        rw [hvv] at q1
        by_cases hi1 : f.ix < 0
        · have hv : Hid (chkV f = 2) := by show _ = _; rw [CE.out]; rw [if_pos (by omega)]
          go_wp2
          go_ret
          exact ⟨by rw [hv.out]; rfl, HF3.out.bel⟩
        · by_cases hi2 : 64 ≤ f.ix
          · have hv : Hid (chkV f = 2) := by show _ = _; rw [CE.out]; rw [if_pos (by omega)]
            go_wp2
            go_ret
            exact ⟨by rw [hv.out]; rfl, HF3.out.bel⟩
          · have hv : Hid (chkV f = refV f.L) := by show _ = _; rw [CE.out]; rw [if_neg (by omega)]
            have CR : Hid _ := refs_any f.L f.hn f.v W3 HF3.out.ls
            rw [hvv] at CR
            go_wp2_with fail
            refine Calls.mono CR.out ?_
            rintro e W5 ⟨rfl, b5⟩
            have HF5 : Hid (Fsq f w W5) := HF3.out.below b5
            clear b5 CR q0 q1 q2 q3 q4 q37
            go_wp2
            go_ret
            exact ⟨by rw [hv.out]; rfl, HF5.out.bel⟩
      · have hv : Hid (chkV f = E) := by show _ = _; rw [CE.out, if_pos ⟨HK1.out, by rw [← HE2.out]; omega⟩, HE2.out]
        have h0' : ¬ ((E : Int) = 0) := by omega
        go_wp2
        go_ret
        exact ⟨by rw [hv.out]; rfl, HF3.out.bel⟩
    · have hv : Hid (chkV f = E) := by show _ = _; rw [CE.out, if_pos (by rw [← HE.out]; omega), HE.out]
      have h0' : ¬ ((E : Int) = 0) := by omega
      go_wp2
      go_ret
      exact ⟨by rw [hv.out]; rfl, HF2.out.bel⟩
set_option maxRecDepth 100000 in
set_option maxHeartbeats 2000000 in
theorem chk_4 (f : Fg) (hk1 : f.k = 4) (w : World) (hk : Tk w) (hv0 : Ls f.v f.L w) :
    Calls Tryz.prog 15 #[.agg (fing f)] w fun e w' => e = .returned (.int .i64 ((chkV f : Nat) : Int)) ∧ Below w.heap.size w w' := by
  obtain ⟨W0, hW0⟩ : ∃ W0, w.alloc (.cells (fing f) 26) = W0 := ⟨_, rfl⟩
  have F0 : Fsq f w W0 := by rw [← hW0]; exact fst_new f w hk hv0
  obtain ⟨o, c, hvv, -, -⟩ := hv0.form
  have chkE : chkV f = if unV f = true then 31 else if okN f.nm ≠ 0 then okN f.nm else if f.k = 3 ∧ okN f.out ≠ 0 then okN f.out else if ¬ (0 ≤ f.ix ∧ f.ix < 64) then 2 else refV f.L := by
    show (if _ then _ else _) = _
    rw [if_neg (by rw [hk1]; omega)]
  have CE : Hid _ := chkE
  have HK1 : Hid (f.k = 4) := hk1
  have HF0 : Hid (Fsq f w W0) := F0
  have ld := run_ldF W0 w.heap.size f F0.row
  have CU : Hid _ := un_4 f o c hvv hk1 W0 F0.tk
  obtain ⟨q0, q1, q2, q3, q4, q37⟩ := fing_cells F0.row
  rw [hk1] at q0
  rw [hvv] at q1
  have HW0 : Hid (w.alloc (.cells (fing f) 26) = W0) := hW0
  rw [← hW0] at q0 q1 q2 q3 q4 q37 ld
  obtain ⟨u, hu⟩ : ∃ u, u = unV f := ⟨_, rfl⟩
  rw [← hu] at CU
  have HU : Hid (u = unV f) := hu
  clear hk hv0 hW0 F0 chkE hu hk1
  go_enter Tryz.func15, Tryz.ntmps15
  go_wp2_with fail
  rw [HW0.out]
  refine Calls.mono CU.out ?_
  rintro e W1 ⟨rfl, b1⟩
  have HF1 : Hid (Fsq f w W1) := HF0.out.below b1
  clear CU b1 q0 q1 q2 q3 q4 q37 ld
  cases u with
  | true =>
    have hv : Hid (chkV f = 31) := by show _ = _; rw [CE.out, if_pos HU.out.symm]
    go_wp2
    go_ret
    exact ⟨by rw [hv.out]; rfl, HF1.out.bel⟩
  | false =>
    have hun : ¬ unV f = true := by rw [← HU.out]; simp
    have chkE : chkV f = if okN f.nm ≠ 0 then okN f.nm else if f.k = 3 ∧ okN f.out ≠ 0 then okN f.out else if ¬ (0 ≤ f.ix ∧ f.ix < 64) then 2 else refV f.L := by rw [CE.out, if_neg hun]
    clear CE hun
    have CE : Hid _ := chkE
    clear chkE
    obtain ⟨q0, q1, q2, q3, q4, q37⟩ := fing_cells HF1.out.row
    rw [HK1.out] at q0
    rw [hvv] at q1
    obtain ⟨E, hE⟩ : ∃ E, E = okN f.nm := ⟨_, rfl⟩
    obtain ⟨F, C⟩ := check_n f.nm E hE W1
    have HC : Hid _ := C
    have HE : Hid (E = okN f.nm) := hE
    clear hE C
    go_wp2_with fail
    refine Calls.mono HC.out ?_
    rintro e W2 ⟨rfl, b2⟩
    have HF2 : Hid (Fsq f w W2) := HF1.out.below b2
    clear HC b2 q0 q1 q2 q3 q4 q37
    by_cases h0 : E = 0
    · have chkE : chkV f = if f.k = 3 ∧ okN f.out ≠ 0 then okN f.out else if ¬ (0 ≤ f.ix ∧ f.ix < 64) then 2 else refV f.L := by rw [CE.out, if_neg (by rw [← HE.out]; omega)]
      subst h0
      clear CE
      obtain ⟨q0, q1, q2, q3, q4, q37⟩ := fing_cells HF2.out.row
      rw [HK1.out] at q0
      rw [hvv] at q1
      have ku := HF2.out.tk.u4
      have CE : Hid (chkV f = if ¬ (0 ≤ f.ix ∧ f.ix < 64) then 2 else refV f.L) := by show _ = _; rw [chkE, if_neg (by rw [HK1.out]; omega)]
      clear chkE
      have hb4 : (bits BinOp.and IntKind.i64 8 4 != 0) = false := by decide +kernel
      by_cases hi1 : f.ix < 0
      · have hv : Hid (chkV f = 2) := by show _ = _; rw [CE.out]; rw [if_pos (by omega)]
        go_wp2
        go_ret
        exact ⟨by rw [hv.out]; rfl, HF2.out.bel⟩
      · by_cases hi2 : 64 ≤ f.ix
        · have hv : Hid (chkV f = 2) := by show _ = _; rw [CE.out]; rw [if_pos (by omega)]
          go_wp2
          go_ret
          exact ⟨by rw [hv.out]; rfl, HF2.out.bel⟩
        · have hv : Hid (chkV f = refV f.L) := by show _ = _; rw [CE.out]; rw [if_neg (by omega)]
          have CR : Hid _ := refs_any f.L f.hn f.v W2 HF2.out.ls
          rw [hvv] at CR
          go_wp2_with fail
          refine Calls.mono CR.out ?_
          rintro e W5 ⟨rfl, b5⟩
          have HF5 : Hid (Fsq f w W5) := HF2.out.below b5
          clear b5 CR q0 q1 q2 q3 q4 q37
          go_wp2
          go_ret
          exact ⟨by rw [hv.out]; rfl, HF5.out.bel⟩
    · have hv : Hid (chkV f = E) := by show _ = _; rw [CE.out, if_pos (by rw [← HE.out]; omega), HE.out]
      have h0' : ¬ ((E : Int) = 0) := by omega
      go_wp2
      go_ret
      exact ⟨by rw [hv.out]; rfl, HF2.out.bel⟩
theorem chk_any (f : Fg) (w : World) (hk : Tk w) (hv0 : Ls f.v f.L w) :
    Calls Tryz.prog 15 #[.agg (fing f)] w fun e w' => e = .returned (.int .i64 ((chkV f : Nat) : Int)) ∧ Below w.heap.size w w' := by
  by_cases h : 1 ≤ f.k ∧ f.k ≤ 4
  · have : f.k = 1 ∨ f.k = 2 ∨ f.k = 3 ∨ f.k = 4 := by omega
    rcases this with h1 | h1 | h1 | h1
    · exact chk_1 f h1 w hk hv0
    · exact chk_2 f h1 w hk hv0
    · exact chk_3 f h1 w hk hv0
    · exact chk_4 f h1 w hk hv0
  · exact chk_0 f h w
end Go.Proofs.YtffghlbgbfhfdaaGreatDoor
