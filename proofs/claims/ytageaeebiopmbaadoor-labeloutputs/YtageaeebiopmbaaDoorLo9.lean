/- LabelOutputs: Output. -/
import Derived.Test.YtageaeebiopmbaaDoorLo8
namespace Go.Proofs.YtageaeebiopmbaaDoor
open Go.RowKit Go.Proofs.YtageaeebiopmbaaDoor.Sha
set_option maxRecDepth 100000 in
theorem built38 (a0 a1 a2 a3 a4 a5 a6 a7 a8 a9 a10 a11 a12 a13 a14 a15 a16 a17 a18 a19 a20 a21 a22 a23 a24 a25 a26 a27 a28 a29 a30 a31 : Nat) (o n : ByteArray) : Tryd.prog.built 39 [(0, .int .i64 3), (3, .string o), (5, .agg (bs [a0, a1, a2, a3, a4, a5, a6, a7, a8, a9, a10, a11, a12, a13, a14, a15, a16, a17, a18, a19, a20, a21, a22, a23, a24, a25, a26, a27, a28, a29, a30, a31])), (6, .string n)] = some (fing o n [a0, a1, a2, a3, a4, a5, a6, a7, a8, a9, a10, a11, a12, a13, a14, a15, a16, a17, a18, a19, a20, a21, a22, a23, a24, a25, a26, a27, a28, a29, a30, a31]) := by kernel_rfl
set_option maxRecDepth 100000 in
theorem built_fing (s : List Nat) (hl : s.length = 32) (o n : ByteArray) : Tryd.prog.built 39 [(0, .int .i64 3), (3, .string o), (5, .agg (bs s)), (6, .string n)] = some (fing o n s) := by
  match s, hl with
  | [a0, a1, a2, a3, a4, a5, a6, a7, a8, a9, a10, a11, a12, a13, a14, a15, a16, a17, a18, a19, a20, a21, a22, a23, a24, a25, a26, a27, a28, a29, a30, a31], _ => exact built38 a0 a1 a2 a3 a4 a5 a6 a7 a8 a9 a10 a11 a12 a13 a14 a15 a16 a17 a18 a19 a20 a21 a22 a23 a24 a25 a26 a27 a28 a29 a30 a31 o n
def buildF (ps : Array (Nat × Value)) : Sem Value := Instr.build 39 ps
theorem toBuildF (ps : Array (Nat × Value)) : Instr.build 39 ps = buildF ps := rfl
theorem run_buildF (w : World) (s : List Nat) (hl : s.length = 32) (o n : ByteArray) : (buildF #[(0, .int .i64 3), (3, .string o), (5, .agg (bs s)), (6, .string n)]).run Tryd.prog w = .ok (.agg (fing o n s)) w := run_build w 39 _ _ (built_fing s hl o n)
set_option maxRecDepth 100000 in
theorem size23s : (Tryd.prog.info? 23).map (·.size) = some 32 := by kernel_rfl
theorem to23s (v : Value) : Instr.loadAt 23 v = loadR 23 v := rfl
theorem run_ld23s (w : World) (g : Nat) (l : List Nat) (hg : w.heap[g]? = some (.cells (bs l) 23 (0, 0))) (hl : l.length = 32) : (loadR 23 (.pointer (some ⟨g, 0, none⟩))).run Tryd.prog w = .ok (.agg (bs l)) w := by
  unfold loadR
  simp only [Instr.loadAt, Instr.sureAddr, Sem.run_bind, Sem.run_pure, Result.andThen_ok, run_loadVar_row w g 23 23 (bs l) (0, 0) _ hg Tryd.underlying23 rfl (by rw [size23s, bs_size, hl])]
def outN : ByteArray := ⟨#[111, 117, 116]⟩
theorem outN_l : outN.toList = [111, 117, 116] := by decide +kernel
/-- The name that comes of both. -/
def nmO (o n : ByteArray) : ByteArray := if o = outN then n else n ++ (minus ++ o)
def outE (o n : ByteArray) : Nat := if okN n = 0 then (if okN o = 0 then okN (nmO o n) else okN o) else okN n
noncomputable def outL (o n : ByteArray) (s : List Nat) : Array Value := if outE o n = 0 then lab (callH o (nmO o n) s) (nmO o n) else none25
noncomputable def outV (o n : ByteArray) (s : List Nat) : Value := .tuple #[.agg (outL o n s), .int .i64 ((outE o n : Nat) : Int)]
theorem callH_len (o n : ByteArray) (s : List Nat) : (callH o n s).length = 20 := fold_len _
/-- The sum's block and the label's. -/
structure Ost (s : List Nat) (w W : World) : Prop where
  bel : Below w.heap.size w W
  sum : W.heap[w.heap.size]? = some (.cells (bs s) 23 (0, 0))
  row : W.heap[w.heap.size + 1]? = some (.cells none25 27 (0, 0))
theorem Ost.below {s : List Nat} {w W W' : World} (h : Ost s w W) (b : Below W.heap.size W W') : Ost s w W' :=
  ⟨h.bel.trans (b.mono h.bel.size), (b.block _ (Array.getElem?_eq_some_iff.1 h.sum).1).trans h.sum, (b.block _ (Array.getElem?_eq_some_iff.1 h.row).1).trans h.row⟩
attribute [local go_sem ↓] to25s toBuild toBuildF to23s
set_option maxRecDepth 100000 in
set_option maxHeartbeats 1000000 in
theorem output_any (o n : ByteArray) (s : List Nat) (hl : s.length = 32) (hb : Byt s) (w : World) (hk : Tk w) (hx : Tx w) (ht : Tb w) :
    Calls Tryd.prog 4 #[.agg (bs s), .string o, .string n] w fun e w' => e = .returned (outV o n s) ∧ Below w.heap.size w w' := by
  obtain ⟨W0, hW0⟩ : ∃ W0, (w.alloc (.cells (bs s) 23)).alloc (.cells none25 27) = W0 := ⟨_, rfl⟩
  have O0 : Ost s w W0 := ⟨by rw [← hW0]; exact ((Below.refl _ w).alloc (Nat.le_refl _) _).alloc (by simp) _, by rw [← hW0]; exact heap_alloc2_old _ _ _, by rw [← hW0]; exact heap_alloc2_new _ _ _⟩
  obtain ⟨E, hE⟩ : ∃ E, E = okN n := ⟨_, rfl⟩
  obtain ⟨E2, hE2⟩ : ∃ E, E = okN o := ⟨_, rfl⟩
  obtain ⟨F, hF⟩ : ∃ F, F = (checkN n).2 := ⟨_, rfl⟩
  obtain ⟨G, hG⟩ : ∃ G, G = (checkN o).2 := ⟨_, rfl⟩
  have C1 : Hid (∀ W, Calls Tryd.prog 7 #[.string n] W fun e w' => e = .returned (.tuple #[.int .i64 (E : Int), .int .i64 (F : Int)]) ∧ Below W.heap.size W w') := by
    intro W
    have := check_any n W
    rw [hE, hF]
    exact this
  have C2 : Hid (∀ W, Calls Tryd.prog 7 #[.string o] W fun e w' => e = .returned (.tuple #[.int .i64 (E2 : Int), .int .i64 (G : Int)]) ∧ Below W.heap.size W w') := by
    intro W
    have := check_any o W
    rw [hE2, hG]
    exact this
  have HC : Hid (okN o = 0 → ∀ (m : ByteArray) W, Below w.heap.size w W → Calls Tryd.prog 8 #[.agg (fing o m s)] W fun e w' => e = .returned (callV o m s) ∧ Below W.heap.size W w') := fun h m W hW =>
    call_any o m h s hl hb W (hk.below hW (by have := ht.sz; omega)) (hx.below hW hx.sz) (ht.below hW ht.sz)
  have HW0 : Hid ((w.alloc (.cells (bs s) 23)).alloc (.cells none25 27) = W0) := hW0
  have H0 : Hid (Ost s w W0) := O0
  have HE : Hid (E = okN n) := hE
  have HE2 : Hid (E2 = okN o) := hE2
  have hbu := run_build0
  clear hE hE2 hF hG hW0 hk hx ht O0
  go_enter Tryd.func4, Tryd.ntmps4
  go_wp2_with fail
  show Calls _ _ _ ((w.alloc (.cells (bs s) 23)).alloc (.cells none25 27)) _
  rw [HW0.out]
  refine Calls.mono (C1.out W0) ?_
  rintro e W1 ⟨rfl, b1⟩
  have H1 : Hid (Ost s w W1) := H0.out.below b1
  clear b1 H0
  by_cases h0 : E = 0
  · subst h0
    go_wp2_with fail
    refine Calls.mono (C2.out W1) ?_
    rintro e W2 ⟨rfl, b2⟩
    have H2 : Hid (Ost s w W2) := H1.out.below b2
    clear b2 H1
    by_cases h2 : E2 = 0
    · subst h2
      have hns : n.size ≤ 211 := okN_size n HE.out.symm
      have hos : o.size ≤ 211 := okN_size o HE2.out.symm
      obtain ⟨nm, hnm⟩ : ∃ nm, nmO o n = nm := ⟨_, rfl⟩
      have C3 : Hid _ := HC.out HE2.out.symm nm W2 H2.out.bel
      have ld := run_ld23s W2 w.heap.size s H2.out.sum hl
      have hbf : ∀ W, (buildF #[(0, .int .i64 3), (3, .string o), (5, .agg (bs s)), (6, .string nm)]).run Tryd.prog W = .ok (.agg (fing o nm s)) W := fun W => run_buildF W s hl o nm
      have fin : Hid (∀ W3, Below W2.heap.size W2 W3 → ∃ L e, callV o nm s = .tuple #[.agg L, .int .i64 e] ∧ outV o n s = .tuple #[.agg L, .int .i64 e] ∧ (storeR 27 (.pointer (some ⟨w.heap.size + 1, 0, none⟩)) (.agg L)).run Tryd.prog W3 = .ok () (W3.setRow (w.heap.size + 1) L) ∧ (∃ k t, k.length = 20 ∧ L = lab k t) ∧ (W3.setRow (w.heap.size + 1) L).heap[w.heap.size + 1]? = some (.cells L 27 (0, 0)) ∧ Below w.heap.size w (W3.setRow (w.heap.size + 1) L)) := fun W3 b3 => by
        have h3 := H2.out.below b3
        have hoe : outE o n = okN nm := by unfold outE; rw [if_pos HE.out.symm, if_pos HE2.out.symm, hnm]
        by_cases hc : okN nm = 0
        · refine ⟨lab (callH o nm s) nm, 0, by unfold callV; rw [if_pos hc], ?_, run_storeR25 W3 (w.heap.size + 1) z20 _ ⟨#[]⟩ nm h3.row rfl (callH_len _ _ _), ⟨_, _, callH_len _ _ _, rfl⟩, setRow_heap _ _ _ _ _ _ h3.row, below_setRow h3.bel (by omega) _⟩
          unfold outV outL
          rw [if_pos (by rw [hoe]; exact hc), hoe, hc, hnm]
          rfl
        · refine ⟨none25, ((okN nm : Nat) : Int), by unfold callV; rw [if_neg hc], ?_, run_storeR25 W3 (w.heap.size + 1) z20 z20 ⟨#[]⟩ ⟨#[]⟩ h3.row rfl rfl, ⟨z20, ⟨#[]⟩, rfl, rfl⟩, setRow_heap _ _ _ _ _ _ h3.row, below_setRow h3.bel (by omega) _⟩
          unfold outV outL
          rw [if_neg (by rw [hoe]; exact hc), hoe]
      by_cases hq : o = outN
      · have hl3 : o.toList = [111, 117, 116] := by rw [hq]; exact outN_l
        have he : nm = n := by rw [← hnm, nmO, if_pos hq]
        clear hq hnm
        subst he
        go_wp2_with fail
        refine Calls.mono C3.out ?_
        rintro e W3 ⟨rfl, b3⟩
        obtain ⟨L, e, hv, ho, st, ⟨k, t, hk, rfl⟩, hr, hbw⟩ := fin.out W3 b3
        have HR : Hid _ := hr
        have HO : Hid (outV o nm s = .tuple #[.agg (lab k t), .int .i64 e]) := ho
        have HBW : Hid (Below w.heap.size w (W3.setRow (w.heap.size + 1) (lab k t))) := hbw
        rw [hv]
        clear hv ho hr hbw b3 C3 ld fin
        go_wp2_with fail
        rw [HO.out]
        exact bodyPost_ret (results_cell2 rfl _ _ (w.heap.size + 1) k t hk rfl HR.out) rfl ⟨rfl, HBW.out⟩
      · have hl3 : ¬ (o.toList = [111, 117, 116]) := fun h => hq (toList_inj.1 (h.trans outN_l.symm))
        have hl4 : (o.toList == [111, 117, 116]) = false := by simpa using hl3
        have he : n ++ (minus ++ o) = nm := by rw [← hnm, nmO, if_neg hq]
        have he' : n ++ ((⟨#[45]⟩ : ByteArray) ++ o) = nm := he
        have z1 : ¬ (9223372036854775807 < 1 + o.size) := by omega
        have z2 : ¬ (9223372036854775807 < n.size + ((⟨#[45]⟩ : ByteArray) ++ o).size) := by rw [app_size]; show ¬ (_ < n.size + (1 + o.size)); omega
        have z3 : ¬ (9223372036854775807 < n.size + (1 + o.size)) := by omega
        clear hq hnm he
        go_wp2_with fail
        refine Calls.mono C3.out ?_
        rintro e W3 ⟨rfl, b3⟩
        obtain ⟨L, e, hv, ho, st, ⟨k, t, hk, rfl⟩, hr, hbw⟩ := fin.out W3 b3
        have HR : Hid _ := hr
        have HO : Hid (outV o n s = .tuple #[.agg (lab k t), .int .i64 e]) := ho
        have HBW : Hid (Below w.heap.size w (W3.setRow (w.heap.size + 1) (lab k t))) := hbw
        rw [hv]
        clear hv ho hr hbw b3 C3 ld fin
        go_wp2_with fail
        rw [HO.out]
        exact bodyPost_ret (results_cell2 rfl _ _ (w.heap.size + 1) k t hk rfl HR.out) rfl ⟨rfl, HBW.out⟩
    · have h2' : ¬ ((E2 : Int) = 0) := by omega
      have HO : Hid (outV o n s = .tuple #[.agg none25, .int .i64 (E2 : Int)]) := by
        show _ = _
        have hoe : outE o n = E2 := by unfold outE; rw [if_pos HE.out.symm, if_neg (by rw [← HE2.out]; exact h2), HE2.out]
        unfold outV outL
        rw [if_neg (by rw [hoe]; exact h2), hoe]
      have st : (storeR 27 (.pointer (some ⟨w.heap.size + 1, 0, none⟩)) (.agg none25)).run Tryd.prog W2 = .ok () (W2.setRow (w.heap.size + 1) none25) := run_storeR25 W2 (w.heap.size + 1) z20 z20 ⟨#[]⟩ ⟨#[]⟩ H2.out.row rfl rfl
      have HR : Hid ((W2.setRow (w.heap.size + 1) none25).heap[w.heap.size + 1]? = some (.cells none25 27 (0, 0))) := setRow_heap _ _ _ _ _ _ H2.out.row
      have HB : Hid (Below w.heap.size w (W2.setRow (w.heap.size + 1) none25)) := below_setRow H2.out.bel (by omega) _
      go_wp2_with fail
      rw [HO.out]
      exact bodyPost_ret (results_cell2 rfl _ _ (w.heap.size + 1) z20 ⟨#[]⟩ rfl rfl HR.out) rfl ⟨rfl, HB.out⟩
  · have h0' : ¬ ((E : Int) = 0) := by omega
    have HO : Hid (outV o n s = .tuple #[.agg none25, .int .i64 (E : Int)]) := by
      show _ = _
      have hoe : outE o n = E := by unfold outE; rw [if_neg (by rw [← HE.out]; exact h0), HE.out]
      unfold outV outL
      rw [if_neg (by rw [hoe]; exact h0), hoe]
    have st : (storeR 27 (.pointer (some ⟨w.heap.size + 1, 0, none⟩)) (.agg none25)).run Tryd.prog W1 = .ok () (W1.setRow (w.heap.size + 1) none25) := run_storeR25 W1 (w.heap.size + 1) z20 z20 ⟨#[]⟩ ⟨#[]⟩ H1.out.row rfl rfl
    have HR : Hid ((W1.setRow (w.heap.size + 1) none25).heap[w.heap.size + 1]? = some (.cells none25 27 (0, 0))) := setRow_heap _ _ _ _ _ _ H1.out.row
    have HB : Hid (Below w.heap.size w (W1.setRow (w.heap.size + 1) none25)) := below_setRow H1.out.bel (by omega) _
    go_wp2_with fail
    rw [HO.out]
    exact bodyPost_ret (results_cell2 rfl _ _ (w.heap.size + 1) z20 ⟨#[]⟩ rfl rfl HR.out) rfl ⟨rfl, HB.out⟩
end Go.Proofs.YtageaeebiopmbaaDoor
