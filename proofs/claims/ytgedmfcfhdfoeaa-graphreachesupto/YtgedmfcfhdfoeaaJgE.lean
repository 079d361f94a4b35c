/- Several texts in one: GuH, GuI. -/
import Derived.Test.YtgedmfcfhdfoeaaJgD
import Derived.Test.YtgedmfcfhdfoeaaGuA
import Derived.Test.YtgedmfcfhdfoeaaGxH
/- Graphs searched by the document: are these all nodes; Reaches. -/
namespace Go.Proofs.Ytgedmfcfhdfoeaa
open Go.RowKit GM
set_option maxRecDepth 20000
/-- A slice of whole numbers as it lies. -/
def Ia (g : Nat) (v : Value) (l : List Int) (w : World) : Prop := ∃ o c, v = .slice o l.length c ∧ (0 < l.length → ∃ off, o = some ⟨g, off, none⟩ ∧ g < w.heap.size ∧ ∀ j, j < l.length → w.cell? ⟨g, off + j, none⟩ = some (.int .i64 (l.getD j 0)))
theorem Ia.below {g : Nat} {v : Value} {l : List Int} {w w' : World} (h : Ia g v l w) (hb : Below w.heap.size w w') : Ia g v l w' := by
  obtain ⟨o, c, h1, h2⟩ := h
  refine ⟨o, c, h1, fun hl => ?_⟩
  obtain ⟨off, h3, h4, h5⟩ := h2 hl
  exact ⟨off, h3, Nat.lt_of_lt_of_le h4 hb.size, fun j hj => cell_belowX hb (h5 j hj)⟩
/-- Are all of them nodes? -/
def okL (N : Nat) (l : List Int) : Bool := l.all fun x => decide (0 ≤ x ∧ x < (N : Int))
theorem okL_nat {N : Nat} {l : List Int} (h : okL N l = true) : ∃ S : List Nat, l = S.map (fun n : Nat => (n : Int)) ∧ ∀ x ∈ S, x < N := by
  unfold okL at h
  rw [List.all_eq_true] at h
  refine ⟨l.map Int.toNat, ?_, fun x hx => ?_⟩
  · rw [List.map_map]
    conv => lhs; rw [← List.map_id l]
    apply List.map_congr_left
    intro a ha
    have := of_decide_eq_true (h a ha)
    simp
    omega
  · obtain ⟨a, ha, rfl⟩ := List.mem_map.1 hx
    have := of_decide_eq_true (h a ha)
    omega
theorem ia_il {g : Nat} {v : Value} {S : List Nat} {w : World} (h : Ia g v (S.map fun n : Nat => (n : Int)) w) : Il g v S w := by
  obtain ⟨o, c, h1, h2⟩ := h
  rw [List.length_map] at h1 h2
  refine ⟨o, c, h1, fun hl => ?_⟩
  obtain ⟨off, h3, h4, h5⟩ := h2 hl
  refine ⟨off, h3, h4, fun j hj => ?_⟩
  rw [h5 j hj]
  simp [List.getD, hj]
theorem all_take {p : Int → Bool} {l : List Int} {i : Nat} (h : (l.take i).all p = true) (hi : i < l.length) (hx : p (l.getD i 0) = true) : (l.take (i + 1)).all p = true := by
  have e : l.take (i + 1) = l.take i ++ [l.getD i 0] := by
    rw [List.take_add_one, List.getElem?_eq_getElem hi]
    simp [List.getD, hi]
  rw [e, List.all_append, h]
  simp only [List.all_cons, List.all_nil, Bool.and_true, Bool.true_and]
  exact hx
theorem all_not {p : Int → Bool} {l : List Int} {i : Nat} (hi : i < l.length) (hx : p (l.getD i 0) = false) : l.all p = false := by
  cases h : l.all p with
  | false => rfl
  | true =>
    rw [List.all_eq_true] at h
    have := h (l.getD i 0) (by simp [List.getD, hi])
    rw [hx] at this
    cases this
theorem bel_drU (W : World) (k : Nat) : Below W.heap.size W (W.drewN k) := ⟨rfl, rfl, rfl, Nat.le_refl _, fun _ _ => rfl⟩
/-- What vertices answers. -/
def VtP (N : Nat) (l : List Int) (w : World) (e : Ending) (w' : World) : Prop := e = .returned (.bool (okL N l)) ∧ Below w.heap.size w w'
set_option maxRecDepth 100000 in
set_option maxHeartbeats 3200000 in
theorem vertices_any (w : World) {N g : Nat} {v rv : Value} {l : List Int} (hN : N ≤ 8192) (hR : Ia g rv l w) (hl : l.length < 1000000000) :
    Calls Try.prog 41 #[grV (N : Int) v, rv] w (VtP N l w) := by
  obtain ⟨kG, hkG⟩ : ∃ k, w.heap.size = k := ⟨_, rfl⟩
  obtain ⟨W0, hW0⟩ : ∃ W0, w.alloc (.cells #[.int .i64 (N : Int), v] 24) = W0 := ⟨_, rfl⟩
  have b0 : Below w.heap.size w W0 := by rw [← hW0]; exact (Below.refl _ w).alloc (Nat.le_refl _) _
  have r0 : W0.heap[kG]? = some (.cells #[.int .i64 (N : Int), v] 24 (0, 0)) := by rw [← hW0, ← hkG]; exact heap_alloc_new _ _
  have hR0 := hR.below b0
  obtain ⟨o, c, rfl, hc⟩ := hR0
  obtain ⟨n, hn⟩ : ∃ n, l.length = n := ⟨_, rfl⟩
  rw [hn] at hc hl ⊢
  have HQ := mkHid (And.intro b0 (And.intro r0 (And.intro hN (And.intro hc (And.intro hl hn)))))
  have H0 : Hid (Below W0.heap.size W0 W0 ∧ (l.take 0).all (fun x => decide (0 ≤ x ∧ x < (N : Int))) = true) := ⟨Below.refl _ _, by simp⟩
  have l0 : W0.cell? ⟨kG, 0, none⟩ = some (.int .i64 (N : Int)) := (cell_of_row _ _ _ _ _ _ r0).trans rfl
  unfold grV
  clear b0 r0 hN hc hl hn hR
  go_enter Try.func41, Try.ntmps41
  go_wp2_with fail
  try rw [hkG]
  try rw [hW0]
  go_loopw [5] (fun iv wr => ∃ i : Nat, iv = .int .i64 (i : Int) ∧ i ≤ n ∧ Hid (Below W0.heap.size W0 wr ∧ (l.take i).all (fun x => decide (0 ≤ x ∧ x < (N : Int))) = true)) (fun iv _ => n - (intOf iv).toNat)
  case atStart => exact ⟨0, rfl, Nat.zero_le _, H0⟩
  case round =>
    clear H0 hW0 l0
    obtain ⟨i, rfl, hi, HI⟩ := hrel
    obtain ⟨b0, r0, hN, hc, hl, hn⟩ := HQ.out
    obtain ⟨bI, hI⟩ := HI.out
    have g0 : wr.cell? ⟨kG, 0, none⟩ = some (.int .i64 (N : Int)) := cell_belowX bI ((cell_of_row _ _ _ _ _ _ r0).trans rfl)
    by_cases hlt : i < n
    · obtain ⟨off, rfl, -, hcc⟩ := hc (by omega)
      have cx := cell_belowX bI (hcc i hlt)
      obtain ⟨x, hx⟩ : ∃ x, l.getD i 0 = x := ⟨_, rfl⟩
      rw [hx] at cx
      have y0 : ∀ k, (wr.drewN k).cell? ⟨kG, 0, none⟩ = some (.int .i64 (N : Int)) := fun _ => g0
      have y1 : ∀ k, (wr.drewN k).cell? ⟨g, off + i, none⟩ = some (.int .i64 x) := fun _ => cx
      have i0 := geI i
      have i1 := ltI hlt
      have wi := wrapI i (by omega)
      by_cases hok : 0 ≤ x ∧ x < (N : Int)
      · have n1 : ¬ x < 0 := by omega
        have n2 : ¬ (N : Int) ≤ x := by omega
        have d1 : decide (x < 0) = false := decide_eq_false n1
        have d2 : decide ((N : Int) ≤ x) = false := decide_eq_false n2
        have HN := mkHid (And.intro bI (And.intro (all_take hI (by omega) (by rw [hx]; exact decide_eq_true hok)) hlt))
        clear b0 r0 hN hc hl hn bI hI HI hcc hx hlt hok hi
        go_wp2_with fail
        go_quiet (fail)
        go_wp2_with fail
        exact ⟨⟨i + 1, by first | (rw [wi]; rfl) | rfl, HN.out.2.2, HN.out.1.trans ((bel_drU _ _).mono HN.out.1.size), HN.out.2.1⟩, by first | (rw [wi]; exact measI _ _ HN.out.2.2) | exact measI _ _ HN.out.2.2⟩
      · have HF : Hid (okL N l = false ∧ Below w.heap.size w wr) := ⟨all_not (i := i) (by omega) (by rw [hx]; exact decide_eq_false hok), b0.trans (bI.mono b0.size)⟩
        by_cases hneg : x < 0
        · have d1 : decide (x < 0) = true := decide_eq_true hneg
          clear b0 r0 hN hc hl hn bI hI HI hcc hx hlt hok hi
          go_wp2_with fail
          go_quiet (fail)
          go_wp2_with fail
          go_ret
          exact ⟨by rw [HF.out.1]; rfl, HF.out.2.trans ((bel_drU _ _).mono HF.out.2.size)⟩
        · have d1 : decide (x < 0) = false := decide_eq_false hneg
          have n2 : (N : Int) ≤ x := by omega
          have d2 : decide ((N : Int) ≤ x) = true := decide_eq_true n2
          clear b0 r0 hN hc hl hn bI hI HI hcc hx hlt hok hi
          go_wp2_with fail
          go_quiet (fail)
          go_wp2_with fail
          go_ret
          exact ⟨by rw [HF.out.1]; rfl, HF.out.2.trans ((bel_drU _ _).mono HF.out.2.size)⟩
    · have i1 := nltI hlt
      have HF : Hid (okL N l = true ∧ Below w.heap.size w wr) := by
        rw [eqI hi hlt, ← hn, List.take_length] at hI
        exact ⟨hI, b0.trans (bI.mono b0.size)⟩
      clear b0 r0 hN hc hl hn bI hI HI hlt hi
      go_wp2_with fail
      go_ret
      exact ⟨by rw [HF.out.1]; rfl, HF.out.2⟩
end Go.Proofs.Ytgedmfcfhdfoeaa

/- Graphs: checkWith of any graph and any nodes. -/
namespace Go.Proofs.Ytgedmfcfhdfoeaa
open Go.RowKit GM
set_option maxRecDepth 20000
/-- What checkWith answers. -/
def CwP (e0 : Nat) (w : World) (e : Ending) (w' : World) : Prop := e = .returned (.int .i64 (e0 : Int)) ∧ Below w.heap.size w w'
/-- The error where all is a graph. -/
def ckE (N : Nat) (l : List Int) : Nat := if okL N l = true then 0 else 82
set_option maxRecDepth 100000 in
theorem checkWith_bad (N : Int) (E : List (Int × Int)) (v rv : Value) (w : World) (hv : El v E w) (hbad : (chk N E).1 ≠ 0) :
    Calls Try.prog 30 #[grV N v, rv] w (CwP (chk N E).1 w) := by
  obtain ⟨W0, hW0⟩ : ∃ W0, w.alloc (.cells #[.int .i64 N, v] 24) = W0 := ⟨_, rfl⟩
  have b0 : Below w.heap.size w W0 := by rw [← hW0]; exact (Below.refl _ w).alloc (Nat.le_refl _) _
  have C := check_any N E v W0 (hv.below b0)
  unfold grV at C ⊢
  obtain ⟨a, ha⟩ : ∃ a, a = (chk N E).1 := ⟨_, rfl⟩
  obtain ⟨b, hb⟩ : ∃ b, b = (chk N E).2 := ⟨_, rfl⟩
  rw [← ha, ← hb] at C
  rw [← ha] at hbad ⊢
  have HC : Hid _ := C
  have HW0 : Hid (w.alloc (.cells #[.int .i64 N, v] 24) = W0) := hW0
  have HB0 : Hid (Below w.heap.size w W0) := b0
  clear C ha hb hW0 b0 hv
  go_enter Try.func30, Try.ntmps30
  go_wp2_with fail
  rw [HW0.out]
  refine Calls.mono HC.out ?_
  rintro e W1 ⟨rfl, b1⟩
  have HB1 : Hid (Below w.heap.size w W1) := HB0.out.trans (b1.mono HB0.out.size)
  clear HC b1
  have h0' : ((a : Int) == 0) = false := by simpa using hbad
  go_wp2
  go_ret
  exact ⟨rfl, HB1.out⟩
set_option maxRecDepth 100000 in
set_option maxHeartbeats 1600000 in
theorem checkWith_gen (N : Nat) (E : List (Nat × Nat)) (v : Value) (w : World) (hv : El v (zE E) w) (hc : (chk (N : Int) (zE E)).1 = 0) {g : Nat} {rv : Value} {S : List Int} (hr : Ia g rv S w) (hSl : S.length < 1000000000) :
    Calls Try.prog 30 #[grV (N : Int) v, rv] w (CwP (ckE N S) w) := by
  obtain ⟨W0, hW0⟩ : ∃ W0, w.alloc (.cells #[.int .i64 (N : Int), v] 24) = W0 := ⟨_, rfl⟩
  have b0 : Below w.heap.size w W0 := by rw [← hW0]; exact (Below.refl _ w).alloc (Nat.le_refl _) _
  have r0 : W0.heap[w.heap.size]? = some (.cells #[.int .i64 (N : Int), v] 24 (0, 0)) := by rw [← hW0]; exact heap_alloc_new _ _
  have C := check_any (N : Int) (zE E) v W0 (hv.below b0)
  rw [show chk (N : Int) (zE E) = (0, (chk (N : Int) (zE E)).2) by rw [← hc]] at C
  obtain ⟨bb, hbb⟩ : ∃ b, b = (chk (N : Int) (zE E)).2 := ⟨_, rfl⟩
  rw [← hbb] at C
  obtain ⟨kg, hkg⟩ : ∃ k, w.heap.size = k := ⟨_, rfl⟩
  obtain ⟨o, c, rfl, hrc⟩ := hr
  obtain ⟨m, hm⟩ : ∃ m, S.length = m := ⟨_, rfl⟩
  rw [hm] at hrc hSl ⊢
  rw [hkg] at r0
  unfold grV at C ⊢
  have HC : Hid _ := C
  have HW0 : Hid (w.alloc (.cells #[.int .i64 (N : Int), v] 24) = W0) := hW0
  have HQ := mkHid (And.intro b0 (And.intro r0 (And.intro hrc (And.intro hSl (And.intro hm hkg)))))
  clear C hc hbb hW0 b0 hv r0 hrc hSl hm
  go_enter Try.func30, Try.ntmps30
  go_wp2_with fail
  rw [HW0.out]
  refine Calls.mono HC.out ?_
  rintro e W1 ⟨rfl, b1⟩
  have HB1 : Hid (Below w.heap.size w W1 ∧ W1.heap[kg]? = some (.cells #[.int .i64 (N : Int), v] 24 (0, 0))) := ⟨HQ.out.1.trans (b1.mono HQ.out.1.size), (b1.block _ (Array.getElem?_eq_some_iff.1 HQ.out.2.1).1).trans HQ.out.2.1⟩
  clear HC b1
  go_wp2_with fail
  go_loopw [19] (fun iv wr => ∃ j : Nat, iv = .int .i64 (j : Int) ∧ j ≤ m ∧ Hid ((S.take j).all (fun x => decide (0 ≤ x ∧ x < (N : Int))) = true ∧ Below w.heap.size w wr ∧ wr.heap[kg]? = some (.cells #[.int .i64 (N : Int), v] 24 (0, 0)))) (fun iv _ => m - (intOf iv).toNat)
  case atStart => exact ⟨0, rfl, Nat.zero_le _, by simp, HB1.out⟩
  case round =>
    obtain ⟨j, rfl, hj, HA⟩ := hrel
    have HB := mkHid HA.out.2
    by_cases hlt : j < m
    · have i1 := ltI hlt
      have i0 := geI j
      obtain ⟨off, rfl, hgw, hcc⟩ := HQ.out.2.2.1 (Nat.lt_of_le_of_lt (Nat.zero_le _) hlt)
      have hmS := HQ.out.2.2.2.2.1
      have c1 : wr.cell? ⟨g, off + j, none⟩ = some (.int .i64 (S.getD j 0)) := (World.cell?_of_block (w := w) (a := ⟨g, off + j, none⟩) (HB.out.1.block g hgw)).trans (hcc j hlt)
      obtain ⟨x, hx2⟩ : ∃ x, S.getD j 0 = x := ⟨_, rfl⟩
      rw [hx2] at c1
      have g0 : wr.cell? ⟨kg, 0, none⟩ = some (.int .i64 (N : Int)) := (cell_of_row _ _ _ _ _ _ HB.out.2).trans rfl
      have g1 : wr.cell? ⟨kg, 1, none⟩ = some v := (cell_of_row _ _ _ _ _ _ HB.out.2).trans rfl
      have CI := isNode_any (N : Int) x v wr
      unfold grV at CI
      have hw1 := wrapI j (by have := HQ.out.2.2.2.1; omega)
      by_cases hok : 0 ≤ x ∧ x < (N : Int)
      · rw [show (decide (0 ≤ x) && decide (x < (N : Int))) = true by simp [hok.1, hok.2]] at CI
        have HT := mkHid (all_take HA.out.1 (by omega) (by rw [hx2]; exact decide_eq_true hok))
        clear hx2 hcc hgw hmS hok
        go_wp2_with fail
        refine CI.mono ?_
        rintro e w2 ⟨rfl, b2⟩
        have HB2 : Hid (Below w.heap.size w w2 ∧ w2.heap[kg]? = some (.cells #[.int .i64 (N : Int), v] 24 (0, 0))) := ⟨HB.out.1.trans (b2.mono HB.out.1.size), (b2.block _ (Array.getElem?_eq_some_iff.1 HB.out.2).1).trans HB.out.2⟩
        clear CI b2
        go_wp2_with fail
        exact ⟨⟨j + 1, by simp [hw1], hlt, HT.out, HB2.out⟩, by rw [hw1]; exact measI _ _ hlt⟩
      · rw [show (decide (0 ≤ x) && decide (x < (N : Int))) = false by
          rw [Bool.and_eq_false_iff]
          by_cases q : 0 ≤ x
          · exact .inr (decide_eq_false fun k => hok ⟨q, k⟩)
          · exact .inl (decide_eq_false q)] at CI
        have HF : Hid (okL N S = false) := all_not (i := j) (by omega) (by rw [hx2]; exact decide_eq_false hok)
        clear hx2 hcc hgw hmS hok
        go_wp2_with fail
        refine CI.mono ?_
        rintro e w2 ⟨rfl, b2⟩
        have HB2 := mkHid (HB.out.1.trans (b2.mono HB.out.1.size))
        clear CI b2
        go_wp2_with fail
        go_ret
        refine ⟨?_, HB2.out⟩
        unfold ckE
        rw [HF.out]
        rfl
    · have i1 := nltI hlt
      have HT : Hid (okL N S = true) := by
        have h := HA.out.1
        rw [eqI hj hlt, ← HQ.out.2.2.2.2.1, List.take_length] at h
        exact h
      go_wp2_with fail
      go_ret
      refine ⟨?_, HB.out.1⟩
      unfold ckE
      rw [HT.out]
      rfl
end Go.Proofs.Ytgedmfcfhdfoeaa
