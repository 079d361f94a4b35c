/- Each of a graph with roots. -/
import Derived.Test.YtgedmfcfhdfoeaaGxH
import Derived.Test.YtgedmfcfhdfoeaaGxN
namespace Go.Proofs.Ytgedmfcfhdfoeaa
open Go.RowKit GM
set_option maxRecDepth 20000
theorem cell_belowX {W W' : World} (hb : Below W.heap.size W W') {a : Addr} {v : Value} (h : W.cell? a = some v) : W'.cell? a = some v := (World.cell?_of_block (w := W) (a := a) (hb.block a.block (World.block_lt_of_cell? W a h))).trans h
/-- What each node needs. -/
def ndF (N : Nat) (E : List (Nat × Nat)) : Nat → List Nat := trL (nds E E.length) N
/-- A range of needs as it lies. -/
theorem rws_ro {g N : Nat} {F : Nat → List Nat} {V : Nat → Value} {w : World} (h : Rws g N F V w) : ∃ gv : Nat → Nat, ∀ v, v < N → w.cell? ⟨g, v, none⟩ = some (V v) ∧ Il (gv v) (V v) (F v) w ∧ (0 < (F v).length → g < gv v) := by
  classical
  refine ⟨fun v => if hv : v < N then Classical.choose (own_il (h.own v hv)) else 0, fun v hv => ⟨(h.cell v hv).1, ?_⟩⟩
  simp only [dif_pos hv]
  exact ⟨(Classical.choose_spec (own_il (h.own v hv))).1, fun hp => ((Classical.choose_spec (own_il (h.own v hv))).2 hp).1⟩
theorem Il.lt {g : Nat} {v : Value} {l : List Nat} {w : World} (h : Il g v l w) (hp : 0 < l.length) : g < w.heap.size := by
  obtain ⟨o, c, -, h1⟩ := h
  obtain ⟨_, -, h2, -⟩ := h1 hp
  exact h2
set_option maxRecDepth 100000 in
set_option maxHeartbeats 6400000 in
theorem each_any (N : Nat) (hN : N ≤ 8192) (E : List (Nat × Nat)) (hE : ∀ e ∈ E, e.1 < N ∧ e.2 < N) (hn : E.length ≤ 1048576) (v : Value) (w : World) (hv : El v (zE E) w) (hc : (chk (N : Int) (zE E)).1 = 0) {g0 : Nat} {rv : Value} {S : List Nat} (hr : Il g0 rv S w) (hS : ∀ x ∈ S, x < N) (hSp : 0 < S.length) (hSl : S.length < 10000000) :
    Calls Try.prog 17 #[grV (N : Int) v, rv] w fun e w' => ∃ a b g gs gv V sv, e = .returned (.func (.func 46) #[] #[.pointer (some ⟨a, 0, none⟩), .pointer (some ⟨b, 0, none⟩)]) ∧ Below w.heap.size w w' ∧ Eas (fun k => w.heap.size ≤ k ∧ k < w'.heap.size) a b g N gs gv (ndF N E) V sv S w' := by
  obtain ⟨W0, hW0⟩ : ∃ W0, w.alloc (.cells #[.int .i64 (N : Int), v] 24) = W0 := ⟨_, rfl⟩
  have b0 : Below w.heap.size w W0 := by rw [← hW0]; exact (Below.refl _ w).alloc (Nat.le_refl _) _
  have r0 : W0.heap[w.heap.size]? = some (.cells #[.int .i64 (N : Int), v] 24 (0, 0)) := by rw [← hW0]; exact heap_alloc_new _ _
  have C := checkWith_roots N E v W0 (hv.below b0) hc (hr.keep0 b0.size fun hp => b0.block _ (hr.lt hp)) hS (by omega)
  obtain ⟨kg, hkg⟩ : ∃ k, w.heap.size = k := ⟨_, rfl⟩
  obtain ⟨o, c, rfl, hrc⟩ := id hr
  have HQ := mkHid (And.intro b0 (And.intro r0 (And.intro hv (And.intro hr (And.intro hS (And.intro hSp (And.intro hSl (And.intro hkg (And.intro hN (And.intro hE hn))))))))))
  obtain ⟨m, hm⟩ : ∃ m, S.length = m := ⟨_, rfl⟩
  rw [hm] at C ⊢
  have c0 : W0.cell? ⟨kg, 0, none⟩ = some (.int .i64 (N : Int)) := by rw [← hkg]; exact (cell_of_row _ _ _ _ _ _ r0).trans rfl
  have c1 : W0.cell? ⟨kg, 1, none⟩ = some v := by rw [← hkg]; exact (cell_of_row _ _ _ _ _ _ r0).trans rfl
  unfold grV at C ⊢
  replace hW0 := mkHid hW0
  clear b0 r0 hv hr hS hSp hSl hN hE hn hc hrc
  go_enter Try.func17, Try.ntmps17
  go_wp2_with fail
  rw [hW0.out]
  refine Calls.mono C ?_
  rintro e W1 ⟨rfl, b1⟩
  have HB1 : Hid (Below w.heap.size w W1 ∧ W1.heap[w.heap.size]? = some (.cells #[.int .i64 (N : Int), v] 24 (0, 0))) := ⟨HQ.out.1.trans (b1.mono HQ.out.1.size), (b1.block _ (Array.getElem?_eq_some_iff.1 HQ.out.2.1).1).trans HQ.out.2.1⟩
  have d0 : W1.cell? ⟨kg, 0, none⟩ = some (.int .i64 (N : Int)) := cell_belowX b1 c0
  have d1 : W1.cell? ⟨kg, 1, none⟩ = some v := cell_belowX b1 c1
  clear C b1 c0 c1
  go_wp2_with fail
  have CN := needsOf_new N HQ.out.2.2.2.2.2.2.2.2.1 E HQ.out.2.2.2.2.2.2.2.2.2.1 (by have := HQ.out.2.2.2.2.2.2.2.2.2.2; omega) v W1 (HQ.out.2.2.1.below HB1.out.1)
  refine Calls.mono CN ?_
  rintro e W2 ⟨g, V, rfl, hrw, b12, hg2⟩
  have HB2 : Hid (Below w.heap.size w W2) := HB1.out.1.trans (b12.mono HB1.out.1.size)
  have CC := clone_any W2 (HQ.out.2.2.2.1.keep0 HB2.out.size fun hp => HB2.out.block _ (HQ.out.2.2.2.1.lt hp)) HQ.out.2.2.2.2.2.1 (by have := HQ.out.2.2.2.2.2.2.1; omega)
  rw [hm] at CC
  have HR := mkHid hrw
  have HG2 : Hid (w.heap.size ≤ g) := Nat.le_trans HB1.out.1.size hg2
  clear CN b12 hrw d0 d1 hg2
  go_wp2_with fail
  refine Calls.mono CC ?_
  rintro e W3 ⟨os, cs, rfl, ho, b23⟩
  have HB3 : Hid (Below w.heap.size w W3) := HB2.out.trans (b23.mono HB2.out.size)
  have HR3 : Hid (Rws g N (ndF N E) V W3 ∧ W3.ownsRow W2.heap.size 3 1 (.slice os m cs) m (ik S).toList) := ⟨HR.out.below b23, ho⟩
  clear CC ho b23 HR
  go_wp2_with fail
  go_ret
  have b3 : Below W3.heap.size W3 ((W3.alloc (.cells #[.slice (some ⟨g, 0, none⟩) N N] 54)).alloc (.cells #[.slice os m cs] 32)) := ((Below.refl _ W3).alloc (Nat.le_refl _) _).alloc (by simp) _
  have e1 := heap_alloc_new W3 (.cells #[.slice (some ⟨g, 0, none⟩) N N] 54)
  have e2 := heap_alloc_new (W3.alloc (.cells #[.slice (some ⟨g, 0, none⟩) N N] 54)) (.cells #[.slice os m cs] 32)
  rw [World.size_alloc] at e2
  have e1' := (Below.heap_alloc (W3.alloc (.cells #[.slice (some ⟨g, 0, none⟩) N N] 54)) (.cells #[.slice os m cs] 32) W3.heap.size (by simp)).trans e1
  obtain ⟨gv, hgv⟩ := rws_ro (HR3.out.1.below b3)
  obtain ⟨gs, hI, hgs⟩ := own_il HR3.out.2
  have s3 := HB3.out.size
  have s2 := HB2.out.size
  have hI2 := hI.keep0 b3.size fun hp => b3.block _ (hI.lt hp)
  exact ⟨_, _, g, gs, gv, V, _, rfl, HB3.out.trans (b3.mono HB3.out.size), (cell_of_row _ _ _ _ _ _ e2).trans rfl, (cell_of_row _ _ _ _ _ _ e1').trans rfl, hI2, fun v hv => ⟨(hgv v hv).1, (hgv v hv).2.1⟩, ⟨by omega, (Array.getElem?_eq_some_iff.1 e2).1⟩, ⟨by omega, (Array.getElem?_eq_some_iff.1 e1').1⟩, fun hp => ⟨by have := (hgs hp).1; omega, hI2.lt hp⟩, ⟨HG2.out, (HR3.out.1.below b3).lt⟩, fun v hv hp => ⟨by have := (hgv v hv).2.2 hp; have := HG2.out; omega, (hgv v hv).2.1.lt hp⟩⟩
end Go.Proofs.Ytgedmfcfhdfoeaa
