/- JournalDevices: the document's Append, Sync, Cut. -/
import Derived.Test.YtdiflmckjpmngaaJv4
import Derived.BigQuiet
namespace Go.Proofs.Ytdiflmckjpmngaa
open Go.RowKit
set_option maxRecDepth 100000 in
theorem SyncR_file (W : World) (v : Nat) (fl : Int) (h0 : fl ≠ 0) (h1 : fl ≠ 1) : Calls Try.prog 17 #[.pointer (some ⟨v, 0, none⟩), .int .i64 fl] W fun e w' => e = .returned (.int .i64 2) ∧ Below W.heap.size W w' := by
  have C := known_any W fl
  rw [show decide (fl = 0 ∨ fl = 1) = false from decide_eq_false (by omega)] at C
  clear h0 h1
  go_enter Try.func17, Try.ntmps17
  go_wp2_with fail
  refine Calls.mono C ?_
  rintro e w' ⟨rfl, hw⟩
  subst hw
  go_wp2_with fail
  go_ret
  exact ⟨rfl, Below.refl _ _⟩
set_option maxRecDepth 100000 in
theorem AppendR_file (W : World) (v : Nat) (fl : Int) (h0 : fl ≠ 0) (h1 : fl ≠ 1) (o : Option Addr) (n c : Nat) : Calls Try.prog 16 #[.pointer (some ⟨v, 0, none⟩), .int .i64 fl, .slice o n c] W fun e w' => e = .returned (.int .i64 2) ∧ Below W.heap.size W w' := by
  have C := known_any W fl
  rw [show decide (fl = 0 ∨ fl = 1) = false from decide_eq_false (by omega)] at C
  clear h0 h1
  go_enter Try.func16, Try.ntmps16
  go_wp2_with fail
  refine Calls.mono C ?_
  rintro e w' ⟨rfl, hw⟩
  subst hw
  go_wp2_with fail
  go_ret
  exact ⟨rfl, Below.refl _ _⟩
set_option maxRecDepth 100000 in
theorem CutR_file (W : World) (v : Nat) (fl n : Int) (h0 : fl ≠ 0) (h1 : fl ≠ 1) : Calls Try.prog 18 #[.pointer (some ⟨v, 0, none⟩), .int .i64 fl, .int .i64 n] W fun e w' => e = .returned (.int .i64 2) ∧ Below W.heap.size W w' := by
  have C := known_any W fl
  rw [show decide (fl = 0 ∨ fl = 1) = false from decide_eq_false (by omega)] at C
  clear h0 h1
  go_enter Try.func18, Try.ntmps18
  go_wp2_with fail
  refine Calls.mono C ?_
  rintro e w' ⟨rfl, hw⟩
  subst hw
  go_wp2_with fail
  go_quiet (fail)
  go_wp2_with fail
  go_ret
  exact ⟨rfl, rfl, rfl, rfl, Nat.le_refl _, fun _ _ => rfl⟩
set_option maxRecDepth 100000 in
theorem SyncR_0 [Inhabited HoleT] {lo v : Nat} {W : World} {ov : Value} {B : List Nat × List Nat} {s : Fl × Fl} {xs : List (Array Value)} {os : List Opn} (h : Ro lo W v ov B s xs os) (hlo : lo ≤ W.heap.size) (hbig : xs.length < 1000000) : Calls Try.prog 17 #[.pointer (some ⟨v, 0, none⟩), .int .i64 0] W (DnP lo W v ov B s xs os (1, 0, [], 0)) := by
  have K := known_any W 0
  have C : Hid _ := done_any h hlo hbig (1, 0, [], 0) (.slice none 0 0) (bq_nil _ _) ⟨.inl rfl, .inr (.inl rfl)⟩
  clear h hlo hbig
  go_enter Try.func17, Try.ntmps17
  go_wp2_with fail
  refine Calls.mono K ?_
  rintro e w' ⟨rfl, hw⟩
  have hw2 := hw.symm
  subst hw2
  go_wp2_with fail
  refine Calls.mono C.out ?_
  rintro e w' ⟨rfl, hD⟩
  go_wp2_with fail
  go_ret
  exact ⟨rfl, hD⟩
set_option maxRecDepth 100000 in
set_option maxHeartbeats 3200000 in
theorem AppendR_long0 [Inhabited HoleT] {lo v : Nat} {W : World} {ov : Value} {B : List Nat × List Nat} {s : Fl × Fl} {xs : List (Array Value)} {os : List Opn} (h : Ro lo W v ov B s xs os) (po : Option Addr) (pn pc : Nat) (hpl : pn ≤ LIM) (hbad : 67108864 < tot s.1 + pn) : Calls Try.prog 16 #[.pointer (some ⟨v, 0, none⟩), .int .i64 0, .slice po pn pc] W fun e w' => e = .returned (.int .i64 1) ∧ Below W.heap.size W w' := by
  have K := known_any W 0
  obtain ⟨b0, b1, s0, s1, l0, l1, hr, hb0, hb1, hs0, hs1, hl0, hl1⟩ := h.rw.row
  obtain ⟨so, sc, hsv, -⟩ := id hs0
  obtain ⟨lq, lc, hlv, -⟩ := id hl0
  have hlim := h.rw.lims
  obtain ⟨n0, hn0⟩ : ∃ n, s.1.1.length = n := ⟨_, rfl⟩
  obtain ⟨n1, hn1⟩ : ∃ n, s.1.2.length = n := ⟨_, rfl⟩
  rw [hn0] at hsv
  rw [hn1] at hlv
  have a3 : ∀ q, (W.drewN q).cell? ⟨v, 3, none⟩ = some (.slice so n0 sc) := fun q => by show W.cell? _ = _; rw [cell_of_row _ _ _ _ _ _ hr, ← hsv]; rfl
  have a5 : ∀ q, (W.drewN q).cell? ⟨v, 5, none⟩ = some (.slice lq n1 lc) := fun q => by show W.cell? _ = _; rw [cell_of_row _ _ _ _ _ _ hr, ← hlv]; rfl
  unfold tot at hbad
  unfold LIM at hpl
  rw [hn0, hn1] at hbad
  have w0 : IntKind.i64.wrap ((n0 : Int) + (n1 : Int)) = ((n0 + n1 : Nat) : Int) := by rw [IntKind.wrap_i64]; omega
  obtain ⟨N, hN⟩ : ∃ N, n0 + n1 = N := ⟨_, rfl⟩
  rw [hN] at w0 hbad
  have w1 : IntKind.i64.wrap ((N : Int) + (pn : Int)) = ((N + pn : Nat) : Int) := by rw [IntKind.wrap_i64]; omega
  obtain ⟨M, hM⟩ : ∃ M, N + pn = M := ⟨_, rfl⟩
  rw [hM] at w1 hbad
  have w2 : (67108864 : Int) < (M : Int) := by omega
  clear h hr hb0 hb1 hs0 hs1 hl0 hl1 hsv hlv hlim hn0 hn1 hpl hbad hN hM
  go_enter Try.func16, Try.ntmps16
  go_wp2_with fail
  refine Calls.mono K ?_
  rintro e w' ⟨rfl, hw⟩
  have hw2 := hw.symm
  subst hw2
  go_wp2_with fail
  go_quiet (fail)
  go_wp2_with fail
  go_ret
  exact ⟨rfl, rfl, rfl, rfl, Nat.le_refl _, fun _ _ => rfl⟩
set_option maxRecDepth 100000 in
set_option maxHeartbeats 3200000 in
theorem AppendR_0 [Inhabited HoleT] {lo v : Nat} {W : World} {ov : Value} {B : List Nat × List Nat} {s : Fl × Fl} {xs : List (Array Value)} {os : List Opn} (h : Ro lo W v ov B s xs os) (hlo : lo ≤ W.heap.size) (hbig : xs.length < 1000000) (u : Value) (p : List Nat) (hu : Bl W u p) (hok : tot s.1 + p.length ≤ 67108864) : Calls Try.prog 16 #[.pointer (some ⟨v, 0, none⟩), .int .i64 0, u] W (DnP lo W v ov B s xs os (0, 0, p, 0)) := by
  have K := known_any W 0
  obtain ⟨b0, b1, s0, s1, l0, l1, hr, hb0, hb1, hs0, hs1, hl0, hl1⟩ := h.rw.row
  obtain ⟨so, sc, hsv, -⟩ := id hs0
  obtain ⟨lq, lc, hlv, -⟩ := id hl0
  have hlim := h.rw.lims
  obtain ⟨n0, hn0⟩ : ∃ n, s.1.1.length = n := ⟨_, rfl⟩
  obtain ⟨n1, hn1⟩ : ∃ n, s.1.2.length = n := ⟨_, rfl⟩
  rw [hn0] at hsv
  rw [hn1] at hlv
  have a3 : ∀ q, (W.drewN q).cell? ⟨v, 3, none⟩ = some (.slice so n0 sc) := fun q => by show W.cell? _ = _; rw [cell_of_row _ _ _ _ _ _ hr, ← hsv]; rfl
  have a5 : ∀ q, (W.drewN q).cell? ⟨v, 5, none⟩ = some (.slice lq n1 lc) := fun q => by show W.cell? _ = _; rw [cell_of_row _ _ _ _ _ _ hr, ← hlv]; rfl
  obtain ⟨po, pc, hpu, -, -, hbyt, -⟩ := id hu
  have HC : Hid (∀ E, Below W.heap.size W E → E.heap.size = W.heap.size → Calls Try.prog 32 #[u] E (fun e w' => e = .returned (.slice (some ⟨W.heap.size, 0, none⟩) p.length p.length) ∧ w' = E.alloc (.cells (bs p).toArray 5)) ∧ Calls Try.prog 34 #[.pointer (some ⟨v, 0, none⟩), .agg (opA (0, 0, p, 0) (.slice (some ⟨W.heap.size, 0, none⟩) p.length p.length))] (E.alloc (.cells (bs p).toArray 5)) (DnP lo W v ov B s xs os (0, 0, p, 0))) := fun E bE hz => by
    have hpl : p.length ≤ LIM := by unfold LIM; omega
    have c1 := copR_any E u p (hu.below bE) hpl
    rw [hz] at c1
    have bY : Below W.heap.size W (E.alloc (.cells (bs p).toArray 5)) := bE.alloc bE.size _
    have hzY : (E.alloc (.cells (bs p).toArray 5)).heap.size = W.heap.size + 1 := by simp; exact hz
    have nq := bq_new (W := E) p hbyt hpl
    rw [hz] at nq
    have hv : v < W.heap.size := (Array.getElem?_eq_some_iff.1 hr).1
    refine ⟨c1, Calls.mono (done_any (h.below bY) (by omega) hbig (0, 0, p, 0) _ (nq.keep (fun _ _ => rfl) (fun j hj => ⟨⟨by have := hj.1; omega, hole_ok (Nat.le_trans h.hb hj.1)⟩, hj.2, by have := hj.1; omega, fun e => by have := (h.own.lt j e).2; have := hj.1; omega⟩)) ⟨.inl rfl, .inl ⟨rfl, by show tot s.1 + p.length ≤ _; omega⟩⟩) ?_⟩
    rintro e w' ⟨he, ov', a, hR, hF⟩
    exact ⟨he, ov', a, hR, hF.os.trans bY.os, hF.tape.trans bY.tape, hF.output.trans bY.output, Nat.le_trans bY.size hF.size, fun j hj hn ho => (hF.block j (by omega) hn ho).trans (bY.block j hj)⟩
  unfold tot at hok
  obtain ⟨pn, hpn⟩ : ∃ n, p.length = n := ⟨_, rfl⟩
  rw [hn0, hn1, hpn] at hok
  rw [hpn] at hpu HC
  subst hpu
  have w0 : IntKind.i64.wrap ((n0 : Int) + (n1 : Int)) = ((n0 + n1 : Nat) : Int) := by rw [IntKind.wrap_i64]; omega
  obtain ⟨N, hN⟩ : ∃ N, n0 + n1 = N := ⟨_, rfl⟩
  rw [hN] at w0 hok
  have w1 : IntKind.i64.wrap ((N : Int) + (pn : Int)) = ((N + pn : Nat) : Int) := by rw [IntKind.wrap_i64]; omega
  obtain ⟨M, hM⟩ : ∃ M, N + pn = M := ⟨_, rfl⟩
  rw [hM] at w1 hok
  have w2 : ¬ (67108864 : Int) < (M : Int) := by omega
  clear h hr hb0 hb1 hs0 hs1 hl0 hl1 hsv hlv hlim hn0 hn1 hpn hok hN hM hu hbyt hlo hbig
  go_enter Try.func16, Try.ntmps16
  go_wp2_with fail
  refine Calls.mono K ?_
  rintro e w' ⟨rfl, hw⟩
  have hw2 := hw.symm
  subst hw2
  go_wp2_with fail
  go_quiet (fail)
  go_wp2_with fail
  refine Calls.mono (HC.out (W.drewN nq) ⟨rfl, rfl, rfl, Nat.le_refl _, fun _ _ => rfl⟩ rfl).1 ?_
  rintro e Y ⟨rfl, hY⟩
  subst hY
  go_wp2_with fail
  refine Calls.mono (HC.out (W.drewN nq) ⟨rfl, rfl, rfl, Nat.le_refl _, fun _ _ => rfl⟩ rfl).2 ?_
  rintro e w' ⟨rfl, hD⟩
  go_wp2_with fail
  go_ret
  exact ⟨rfl, hD⟩
set_option maxRecDepth 100000 in
set_option maxHeartbeats 3200000 in
theorem CutR_wrong0 [Inhabited HoleT] {lo v : Nat} {W : World} {ov : Value} {B : List Nat × List Nat} {s : Fl × Fl} {xs : List (Array Value)} {os : List Opn} (h : Ro lo W v ov B s xs os) (n : Int) (hbad : n < 0 ∨ ((tot s.1 : Nat) : Int) < n) : Calls Try.prog 18 #[.pointer (some ⟨v, 0, none⟩), .int .i64 0, .int .i64 n] W fun e w' => e = .returned (.int .i64 2) ∧ Below W.heap.size W w' := by
  have K := known_any W 0
  obtain ⟨b0, b1, s0, s1, l0, l1, hr, hb0, hb1, hs0, hs1, hl0, hl1⟩ := h.rw.row
  obtain ⟨so, sc, hsv, -⟩ := id hs0
  obtain ⟨lq, lc, hlv, -⟩ := id hl0
  have hlim := h.rw.lims
  obtain ⟨n0, hn0⟩ : ∃ n, s.1.1.length = n := ⟨_, rfl⟩
  obtain ⟨n1, hn1⟩ : ∃ n, s.1.2.length = n := ⟨_, rfl⟩
  rw [hn0] at hsv
  rw [hn1] at hlv
  have a3 : ∀ q, (W.drewN q).cell? ⟨v, 3, none⟩ = some (.slice so n0 sc) := fun q => by show W.cell? _ = _; rw [cell_of_row _ _ _ _ _ _ hr, ← hsv]; rfl
  have a5 : ∀ q, (W.drewN q).cell? ⟨v, 5, none⟩ = some (.slice lq n1 lc) := fun q => by show W.cell? _ = _; rw [cell_of_row _ _ _ _ _ _ hr, ← hlv]; rfl
  unfold tot at hbad
  rw [hn0, hn1] at hbad
  have w0 : IntKind.i64.wrap ((n0 : Int) + (n1 : Int)) = ((n0 + n1 : Nat) : Int) := by rw [IntKind.wrap_i64]; omega
  obtain ⟨N, hN⟩ : ∃ N, n0 + n1 = N := ⟨_, rfl⟩
  rw [hN] at w0 hbad
  clear h hr hb0 hb1 hs0 hs1 hl0 hl1 hsv hlv hlim hn0 hn1 hN
  by_cases hneg : n < 0
  · have d1 : decide (n < 0) = true := decide_eq_true hneg
    clear hbad
    go_enter Try.func18, Try.ntmps18
    go_wp2_with fail
    refine Calls.mono K ?_
    rintro e w' ⟨rfl, hw⟩
    have hw2 := hw.symm
    subst hw2
    go_wp2_with fail
    go_quiet (fail)
    go_wp2_with fail
    go_ret
    exact ⟨rfl, rfl, rfl, rfl, Nat.le_refl _, fun _ _ => rfl⟩
  · have d1 : decide (n < 0) = false := decide_eq_false hneg
    have d2 : (N : Int) < n := by omega
    have d3 : decide ((N : Int) < n) = true := decide_eq_true d2
    clear hbad
    go_enter Try.func18, Try.ntmps18
    go_wp2_with fail
    refine Calls.mono K ?_
    rintro e w' ⟨rfl, hw⟩
    have hw2 := hw.symm
    subst hw2
    go_wp2_with fail
    go_quiet (fail)
    go_wp2_with fail
    go_ret
    exact ⟨rfl, rfl, rfl, rfl, Nat.le_refl _, fun _ _ => rfl⟩
set_option maxRecDepth 100000 in
set_option maxHeartbeats 3200000 in
theorem CutR_0 [Inhabited HoleT] {lo v : Nat} {W : World} {ov : Value} {B : List Nat × List Nat} {s : Fl × Fl} {xs : List (Array Value)} {os : List Opn} (h : Ro lo W v ov B s xs os) (hlo : lo ≤ W.heap.size) (hbig : xs.length < 1000000) (n : Nat) (hok : n ≤ tot s.1) : Calls Try.prog 18 #[.pointer (some ⟨v, 0, none⟩), .int .i64 0, .int .i64 (n : Int)] W (DnP lo W v ov B s xs os (2, 0, [], n)) := by
  have K := known_any W 0
  obtain ⟨b0, b1, s0, s1, l0, l1, hr, hb0, hb1, hs0, hs1, hl0, hl1⟩ := h.rw.row
  obtain ⟨so, sc, hsv, -⟩ := id hs0
  obtain ⟨lq, lc, hlv, -⟩ := id hl0
  have hlim := h.rw.lims
  obtain ⟨n0, hn0⟩ : ∃ n, s.1.1.length = n := ⟨_, rfl⟩
  obtain ⟨n1, hn1⟩ : ∃ n, s.1.2.length = n := ⟨_, rfl⟩
  rw [hn0] at hsv
  rw [hn1] at hlv
  have a3 : ∀ q, (W.drewN q).cell? ⟨v, 3, none⟩ = some (.slice so n0 sc) := fun q => by show W.cell? _ = _; rw [cell_of_row _ _ _ _ _ _ hr, ← hsv]; rfl
  have a5 : ∀ q, (W.drewN q).cell? ⟨v, 5, none⟩ = some (.slice lq n1 lc) := fun q => by show W.cell? _ = _; rw [cell_of_row _ _ _ _ _ _ hr, ← hlv]; rfl
  have HC : Hid (∀ E, Below W.heap.size W E → E.heap.size = W.heap.size → Calls Try.prog 34 #[.pointer (some ⟨v, 0, none⟩), .agg (opA (2, 0, [], n) (.slice none 0 0))] E (DnP lo W v ov B s xs os (2, 0, [], n))) := fun E bE hz => by
    refine Calls.mono (done_any (h.below bE) (by omega) hbig (2, 0, [], n) (.slice none 0 0) (bq_nil _ _) ⟨.inl rfl, .inr (.inr ⟨rfl, hok⟩)⟩) ?_
    rintro e w' ⟨he, ov', a, hR, hF⟩
    exact ⟨he, ov', a, hR, hF.os.trans bE.os, hF.tape.trans bE.tape, hF.output.trans bE.output, Nat.le_trans bE.size hF.size, fun j hj hn ho => (hF.block j (by omega) hn ho).trans (bE.block j hj)⟩
  unfold tot at hok
  rw [hn0, hn1] at hok
  have w0 : IntKind.i64.wrap ((n0 : Int) + (n1 : Int)) = ((n0 + n1 : Nat) : Int) := by rw [IntKind.wrap_i64]; omega
  obtain ⟨N, hN⟩ : ∃ N, n0 + n1 = N := ⟨_, rfl⟩
  rw [hN] at w0 hok
  have d1 : decide ((n : Int) < 0) = false := decide_eq_false (by omega)
  have d2 : ¬ (N : Int) < (n : Int) := by omega
  have d3 : decide ((N : Int) < (n : Int)) = false := decide_eq_false d2
  clear h hr hb0 hb1 hs0 hs1 hl0 hl1 hsv hlv hlim hn0 hn1 hok hN hlo hbig
  go_enter Try.func18, Try.ntmps18
  go_wp2_with fail
  refine Calls.mono K ?_
  rintro e w' ⟨rfl, hw⟩
  have hw2 := hw.symm
  subst hw2
  go_wp2_with fail
  go_quiet (fail)
  go_wp2_with fail
  refine Calls.mono (HC.out (W.drewN nq) ⟨rfl, rfl, rfl, Nat.le_refl _, fun _ _ => rfl⟩ rfl) ?_
  rintro e w' ⟨rfl, hD⟩
  go_wp2_with fail
  go_ret
  exact ⟨rfl, hD⟩
set_option maxRecDepth 100000 in
theorem SyncR_1 [Inhabited HoleT] {lo v : Nat} {W : World} {ov : Value} {B : List Nat × List Nat} {s : Fl × Fl} {xs : List (Array Value)} {os : List Opn} (h : Ro lo W v ov B s xs os) (hlo : lo ≤ W.heap.size) (hbig : xs.length < 1000000) : Calls Try.prog 17 #[.pointer (some ⟨v, 0, none⟩), .int .i64 1] W (DnP lo W v ov B s xs os (1, 1, [], 0)) := by
  have K := known_any W 1
  have C : Hid _ := done_any h hlo hbig (1, 1, [], 0) (.slice none 0 0) (bq_nil _ _) ⟨.inr rfl, .inr (.inl rfl)⟩
  clear h hlo hbig
  go_enter Try.func17, Try.ntmps17
  go_wp2_with fail
  refine Calls.mono K ?_
  rintro e w' ⟨rfl, hw⟩
  have hw2 := hw.symm
  subst hw2
  go_wp2_with fail
  refine Calls.mono C.out ?_
  rintro e w' ⟨rfl, hD⟩
  go_wp2_with fail
  go_ret
  exact ⟨rfl, hD⟩
set_option maxRecDepth 100000 in
set_option maxHeartbeats 3200000 in
theorem AppendR_long1 [Inhabited HoleT] {lo v : Nat} {W : World} {ov : Value} {B : List Nat × List Nat} {s : Fl × Fl} {xs : List (Array Value)} {os : List Opn} (h : Ro lo W v ov B s xs os) (po : Option Addr) (pn pc : Nat) (hpl : pn ≤ LIM) (hbad : 67108864 < tot s.2 + pn) : Calls Try.prog 16 #[.pointer (some ⟨v, 0, none⟩), .int .i64 1, .slice po pn pc] W fun e w' => e = .returned (.int .i64 1) ∧ Below W.heap.size W w' := by
  have K := known_any W 1
  obtain ⟨b0, b1, s0, s1, l0, l1, hr, hb0, hb1, hs0, hs1, hl0, hl1⟩ := h.rw.row
  obtain ⟨so, sc, hsv, -⟩ := id hs1
  obtain ⟨lq, lc, hlv, -⟩ := id hl1
  have hlim := h.rw.lims
  obtain ⟨n0, hn0⟩ : ∃ n, s.2.1.length = n := ⟨_, rfl⟩
  obtain ⟨n1, hn1⟩ : ∃ n, s.2.2.length = n := ⟨_, rfl⟩
  rw [hn0] at hsv
  rw [hn1] at hlv
  have a3 : ∀ q, (W.drewN q).cell? ⟨v, 4, none⟩ = some (.slice so n0 sc) := fun q => by show W.cell? _ = _; rw [cell_of_row _ _ _ _ _ _ hr, ← hsv]; rfl
  have a5 : ∀ q, (W.drewN q).cell? ⟨v, 6, none⟩ = some (.slice lq n1 lc) := fun q => by show W.cell? _ = _; rw [cell_of_row _ _ _ _ _ _ hr, ← hlv]; rfl
  unfold tot at hbad
  unfold LIM at hpl
  rw [hn0, hn1] at hbad
  have w0 : IntKind.i64.wrap ((n0 : Int) + (n1 : Int)) = ((n0 + n1 : Nat) : Int) := by rw [IntKind.wrap_i64]; omega
  obtain ⟨N, hN⟩ : ∃ N, n0 + n1 = N := ⟨_, rfl⟩
  rw [hN] at w0 hbad
  have w1 : IntKind.i64.wrap ((N : Int) + (pn : Int)) = ((N + pn : Nat) : Int) := by rw [IntKind.wrap_i64]; omega
  obtain ⟨M, hM⟩ : ∃ M, N + pn = M := ⟨_, rfl⟩
  rw [hM] at w1 hbad
  have w2 : (67108864 : Int) < (M : Int) := by omega
  clear h hr hb0 hb1 hs0 hs1 hl0 hl1 hsv hlv hlim hn0 hn1 hpl hbad hN hM
  go_enter Try.func16, Try.ntmps16
  go_wp2_with fail
  refine Calls.mono K ?_
  rintro e w' ⟨rfl, hw⟩
  have hw2 := hw.symm
  subst hw2
  go_wp2_with fail
  go_quiet (fail)
  go_wp2_with fail
  go_ret
  exact ⟨rfl, rfl, rfl, rfl, Nat.le_refl _, fun _ _ => rfl⟩
set_option maxRecDepth 100000 in
set_option maxHeartbeats 3200000 in
theorem AppendR_1 [Inhabited HoleT] {lo v : Nat} {W : World} {ov : Value} {B : List Nat × List Nat} {s : Fl × Fl} {xs : List (Array Value)} {os : List Opn} (h : Ro lo W v ov B s xs os) (hlo : lo ≤ W.heap.size) (hbig : xs.length < 1000000) (u : Value) (p : List Nat) (hu : Bl W u p) (hok : tot s.2 + p.length ≤ 67108864) : Calls Try.prog 16 #[.pointer (some ⟨v, 0, none⟩), .int .i64 1, u] W (DnP lo W v ov B s xs os (0, 1, p, 0)) := by
  have K := known_any W 1
  obtain ⟨b0, b1, s0, s1, l0, l1, hr, hb0, hb1, hs0, hs1, hl0, hl1⟩ := h.rw.row
  obtain ⟨so, sc, hsv, -⟩ := id hs1
  obtain ⟨lq, lc, hlv, -⟩ := id hl1
  have hlim := h.rw.lims
  obtain ⟨n0, hn0⟩ : ∃ n, s.2.1.length = n := ⟨_, rfl⟩
  obtain ⟨n1, hn1⟩ : ∃ n, s.2.2.length = n := ⟨_, rfl⟩
  rw [hn0] at hsv
  rw [hn1] at hlv
  have a3 : ∀ q, (W.drewN q).cell? ⟨v, 4, none⟩ = some (.slice so n0 sc) := fun q => by show W.cell? _ = _; rw [cell_of_row _ _ _ _ _ _ hr, ← hsv]; rfl
  have a5 : ∀ q, (W.drewN q).cell? ⟨v, 6, none⟩ = some (.slice lq n1 lc) := fun q => by show W.cell? _ = _; rw [cell_of_row _ _ _ _ _ _ hr, ← hlv]; rfl
  obtain ⟨po, pc, hpu, -, -, hbyt, -⟩ := id hu
  have HC : Hid (∀ E, Below W.heap.size W E → E.heap.size = W.heap.size → Calls Try.prog 32 #[u] E (fun e w' => e = .returned (.slice (some ⟨W.heap.size, 0, none⟩) p.length p.length) ∧ w' = E.alloc (.cells (bs p).toArray 5)) ∧ Calls Try.prog 34 #[.pointer (some ⟨v, 0, none⟩), .agg (opA (0, 1, p, 0) (.slice (some ⟨W.heap.size, 0, none⟩) p.length p.length))] (E.alloc (.cells (bs p).toArray 5)) (DnP lo W v ov B s xs os (0, 1, p, 0))) := fun E bE hz => by
    have hpl : p.length ≤ LIM := by unfold LIM; omega
    have c1 := copR_any E u p (hu.below bE) hpl
    rw [hz] at c1
    have bY : Below W.heap.size W (E.alloc (.cells (bs p).toArray 5)) := bE.alloc bE.size _
    have hzY : (E.alloc (.cells (bs p).toArray 5)).heap.size = W.heap.size + 1 := by simp; exact hz
    have nq := bq_new (W := E) p hbyt hpl
    rw [hz] at nq
    have hv : v < W.heap.size := (Array.getElem?_eq_some_iff.1 hr).1
    refine ⟨c1, Calls.mono (done_any (h.below bY) (by omega) hbig (0, 1, p, 0) _ (nq.keep (fun _ _ => rfl) (fun j hj => ⟨⟨by have := hj.1; omega, hole_ok (Nat.le_trans h.hb hj.1)⟩, hj.2, by have := hj.1; omega, fun e => by have := (h.own.lt j e).2; have := hj.1; omega⟩)) ⟨.inr rfl, .inl ⟨rfl, by show tot s.2 + p.length ≤ _; omega⟩⟩) ?_⟩
    rintro e w' ⟨he, ov', a, hR, hF⟩
    exact ⟨he, ov', a, hR, hF.os.trans bY.os, hF.tape.trans bY.tape, hF.output.trans bY.output, Nat.le_trans bY.size hF.size, fun j hj hn ho => (hF.block j (by omega) hn ho).trans (bY.block j hj)⟩
  unfold tot at hok
  obtain ⟨pn, hpn⟩ : ∃ n, p.length = n := ⟨_, rfl⟩
  rw [hn0, hn1, hpn] at hok
  rw [hpn] at hpu HC
  subst hpu
  have w0 : IntKind.i64.wrap ((n0 : Int) + (n1 : Int)) = ((n0 + n1 : Nat) : Int) := by rw [IntKind.wrap_i64]; omega
  obtain ⟨N, hN⟩ : ∃ N, n0 + n1 = N := ⟨_, rfl⟩
  rw [hN] at w0 hok
  have w1 : IntKind.i64.wrap ((N : Int) + (pn : Int)) = ((N + pn : Nat) : Int) := by rw [IntKind.wrap_i64]; omega
  obtain ⟨M, hM⟩ : ∃ M, N + pn = M := ⟨_, rfl⟩
  rw [hM] at w1 hok
  have w2 : ¬ (67108864 : Int) < (M : Int) := by omega
  clear h hr hb0 hb1 hs0 hs1 hl0 hl1 hsv hlv hlim hn0 hn1 hpn hok hN hM hu hbyt hlo hbig
  go_enter Try.func16, Try.ntmps16
  go_wp2_with fail
  refine Calls.mono K ?_
  rintro e w' ⟨rfl, hw⟩
  have hw2 := hw.symm
  subst hw2
  go_wp2_with fail
  go_quiet (fail)
  go_wp2_with fail
  refine Calls.mono (HC.out (W.drewN nq) ⟨rfl, rfl, rfl, Nat.le_refl _, fun _ _ => rfl⟩ rfl).1 ?_
  rintro e Y ⟨rfl, hY⟩
  subst hY
  go_wp2_with fail
  refine Calls.mono (HC.out (W.drewN nq) ⟨rfl, rfl, rfl, Nat.le_refl _, fun _ _ => rfl⟩ rfl).2 ?_
  rintro e w' ⟨rfl, hD⟩
  go_wp2_with fail
  go_ret
  exact ⟨rfl, hD⟩
set_option maxRecDepth 100000 in
set_option maxHeartbeats 3200000 in
theorem CutR_wrong1 [Inhabited HoleT] {lo v : Nat} {W : World} {ov : Value} {B : List Nat × List Nat} {s : Fl × Fl} {xs : List (Array Value)} {os : List Opn} (h : Ro lo W v ov B s xs os) (n : Int) (hbad : n < 0 ∨ ((tot s.2 : Nat) : Int) < n) : Calls Try.prog 18 #[.pointer (some ⟨v, 0, none⟩), .int .i64 1, .int .i64 n] W fun e w' => e = .returned (.int .i64 2) ∧ Below W.heap.size W w' := by
  have K := known_any W 1
  obtain ⟨b0, b1, s0, s1, l0, l1, hr, hb0, hb1, hs0, hs1, hl0, hl1⟩ := h.rw.row
  obtain ⟨so, sc, hsv, -⟩ := id hs1
  obtain ⟨lq, lc, hlv, -⟩ := id hl1
  have hlim := h.rw.lims
  obtain ⟨n0, hn0⟩ : ∃ n, s.2.1.length = n := ⟨_, rfl⟩
  obtain ⟨n1, hn1⟩ : ∃ n, s.2.2.length = n := ⟨_, rfl⟩
  rw [hn0] at hsv
  rw [hn1] at hlv
  have a3 : ∀ q, (W.drewN q).cell? ⟨v, 4, none⟩ = some (.slice so n0 sc) := fun q => by show W.cell? _ = _; rw [cell_of_row _ _ _ _ _ _ hr, ← hsv]; rfl
  have a5 : ∀ q, (W.drewN q).cell? ⟨v, 6, none⟩ = some (.slice lq n1 lc) := fun q => by show W.cell? _ = _; rw [cell_of_row _ _ _ _ _ _ hr, ← hlv]; rfl
  unfold tot at hbad
  rw [hn0, hn1] at hbad
  have w0 : IntKind.i64.wrap ((n0 : Int) + (n1 : Int)) = ((n0 + n1 : Nat) : Int) := by rw [IntKind.wrap_i64]; omega
  obtain ⟨N, hN⟩ : ∃ N, n0 + n1 = N := ⟨_, rfl⟩
  rw [hN] at w0 hbad
  clear h hr hb0 hb1 hs0 hs1 hl0 hl1 hsv hlv hlim hn0 hn1 hN
  by_cases hneg : n < 0
  · have d1 : decide (n < 0) = true := decide_eq_true hneg
    clear hbad
    go_enter Try.func18, Try.ntmps18
    go_wp2_with fail
    refine Calls.mono K ?_
    rintro e w' ⟨rfl, hw⟩
    have hw2 := hw.symm
    subst hw2
    go_wp2_with fail
    go_quiet (fail)
    go_wp2_with fail
    go_ret
    exact ⟨rfl, rfl, rfl, rfl, Nat.le_refl _, fun _ _ => rfl⟩
  · have d1 : decide (n < 0) = false := decide_eq_false hneg
    have d2 : (N : Int) < n := by omega
    have d3 : decide ((N : Int) < n) = true := decide_eq_true d2
    clear hbad
    go_enter Try.func18, Try.ntmps18
    go_wp2_with fail
    refine Calls.mono K ?_
    rintro e w' ⟨rfl, hw⟩
    have hw2 := hw.symm
    subst hw2
    go_wp2_with fail
    go_quiet (fail)
    go_wp2_with fail
    go_ret
    exact ⟨rfl, rfl, rfl, rfl, Nat.le_refl _, fun _ _ => rfl⟩
set_option maxRecDepth 100000 in
set_option maxHeartbeats 3200000 in
theorem CutR_1 [Inhabited HoleT] {lo v : Nat} {W : World} {ov : Value} {B : List Nat × List Nat} {s : Fl × Fl} {xs : List (Array Value)} {os : List Opn} (h : Ro lo W v ov B s xs os) (hlo : lo ≤ W.heap.size) (hbig : xs.length < 1000000) (n : Nat) (hok : n ≤ tot s.2) : Calls Try.prog 18 #[.pointer (some ⟨v, 0, none⟩), .int .i64 1, .int .i64 (n : Int)] W (DnP lo W v ov B s xs os (2, 1, [], n)) := by
  have K := known_any W 1
  obtain ⟨b0, b1, s0, s1, l0, l1, hr, hb0, hb1, hs0, hs1, hl0, hl1⟩ := h.rw.row
  obtain ⟨so, sc, hsv, -⟩ := id hs1
  obtain ⟨lq, lc, hlv, -⟩ := id hl1
  have hlim := h.rw.lims
  obtain ⟨n0, hn0⟩ : ∃ n, s.2.1.length = n := ⟨_, rfl⟩
  obtain ⟨n1, hn1⟩ : ∃ n, s.2.2.length = n := ⟨_, rfl⟩
  rw [hn0] at hsv
  rw [hn1] at hlv
  have a3 : ∀ q, (W.drewN q).cell? ⟨v, 4, none⟩ = some (.slice so n0 sc) := fun q => by show W.cell? _ = _; rw [cell_of_row _ _ _ _ _ _ hr, ← hsv]; rfl
  have a5 : ∀ q, (W.drewN q).cell? ⟨v, 6, none⟩ = some (.slice lq n1 lc) := fun q => by show W.cell? _ = _; rw [cell_of_row _ _ _ _ _ _ hr, ← hlv]; rfl
  have HC : Hid (∀ E, Below W.heap.size W E → E.heap.size = W.heap.size → Calls Try.prog 34 #[.pointer (some ⟨v, 0, none⟩), .agg (opA (2, 1, [], n) (.slice none 0 0))] E (DnP lo W v ov B s xs os (2, 1, [], n))) := fun E bE hz => by
    refine Calls.mono (done_any (h.below bE) (by omega) hbig (2, 1, [], n) (.slice none 0 0) (bq_nil _ _) ⟨.inr rfl, .inr (.inr ⟨rfl, hok⟩)⟩) ?_
    rintro e w' ⟨he, ov', a, hR, hF⟩
    exact ⟨he, ov', a, hR, hF.os.trans bE.os, hF.tape.trans bE.tape, hF.output.trans bE.output, Nat.le_trans bE.size hF.size, fun j hj hn ho => (hF.block j (by omega) hn ho).trans (bE.block j hj)⟩
  unfold tot at hok
  rw [hn0, hn1] at hok
  have w0 : IntKind.i64.wrap ((n0 : Int) + (n1 : Int)) = ((n0 + n1 : Nat) : Int) := by rw [IntKind.wrap_i64]; omega
  obtain ⟨N, hN⟩ : ∃ N, n0 + n1 = N := ⟨_, rfl⟩
  rw [hN] at w0 hok
  have d1 : decide ((n : Int) < 0) = false := decide_eq_false (by omega)
  have d2 : ¬ (N : Int) < (n : Int) := by omega
  have d3 : decide ((N : Int) < (n : Int)) = false := decide_eq_false d2
  clear h hr hb0 hb1 hs0 hs1 hl0 hl1 hsv hlv hlim hn0 hn1 hok hN hlo hbig
  go_enter Try.func18, Try.ntmps18
  go_wp2_with fail
  refine Calls.mono K ?_
  rintro e w' ⟨rfl, hw⟩
  have hw2 := hw.symm
  subst hw2
  go_wp2_with fail
  go_quiet (fail)
  go_wp2_with fail
  refine Calls.mono (HC.out (W.drewN nq) ⟨rfl, rfl, rfl, Nat.le_refl _, fun _ _ => rfl⟩ rfl) ?_
  rintro e w' ⟨rfl, hD⟩
  go_wp2_with fail
  go_ret
  exact ⟨rfl, hD⟩
end Go.Proofs.Ytdiflmckjpmngaa
