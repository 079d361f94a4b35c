/- Each's pairs; layers; what Each's closure reads. -/
import Derived.Test.YtgedmfcfhdfoeaaGxE
namespace Go.Proofs.Ytgedmfcfhdfoeaa
open Go.RowKit GM
set_option maxRecDepth 20000
/-- The nodes with their distances, nearest first. -/
def eaL (F : Nat → List Nat) (S : List Nat) (d : Nat) : List (Nat × Nat) := (List.range d).flatMap fun e => (srt (lyr F S e).1).map fun v => (v, e)
section
variable {F : Nat → List Nat} {S : List Nat}
theorem eaL_succ (d : Nat) : eaL F S (d + 1) = eaL F S d ++ (srt (lyr F S d).1).map fun v => (v, d) := by
  unfold eaL
  rw [List.range_succ, List.flatMap_append, List.flatMap_singleton]
theorem eaL_len (d : Nat) : (eaL F S (d + 1)).length = (eaL F S d).length + (srt (lyr F S d).1).length := by rw [eaL_succ]; simp
theorem eaL_pre (d K : Nat) (h : d ≤ K) : ∃ r, eaL F S K = eaL F S d ++ r := by
  induction K with
  | zero =>
    obtain rfl : d = 0 := by omega
    exact ⟨[], by simp⟩
  | succ K ih =>
    by_cases e : d = K + 1
    · subst e
      exact ⟨[], by simp⟩
    · obtain ⟨r, hr⟩ := ih (by omega)
      exact ⟨r ++ _, by rw [eaL_succ, hr, List.append_assoc]⟩
theorem eaL_get {d K j : Nat} (hd : d < K) (hj : j < (srt (lyr F S d).1).length) : (eaL F S K)[(eaL F S d).length + j]? = some ((srt (lyr F S d).1).getD j 0, d) := by
  obtain ⟨r, hr⟩ := eaL_pre (F := F) (S := S) (d + 1) K (by omega)
  rw [hr, eaL_succ, List.append_assoc, List.getElem?_append_right (by omega), Nat.add_sub_cancel_left, List.getElem?_append_left (by simpa using hj), List.getElem?_map, List.getElem?_eq_getElem hj]
  simp [List.getD_eq_getElem?_getD, List.getElem?_eq_getElem hj]
theorem eaL_lt {d K j : Nat} (hd : d < K) (hj : j < (srt (lyr F S d).1).length) : (eaL F S d).length + j < (eaL F S K).length := by
  by_cases h : (eaL F S d).length + j < (eaL F S K).length
  · exact h
  · have := eaL_get hd hj
    rw [List.getElem?_eq_none (by omega)] at this
    cases this
end
/-- What a round of Each is handed. -/
def EaV (F : Nat → List Nat) (S : List Nat) (K i : Nat) (x : Array Value) (_ : World) : Prop := ∃ p, (eaL F S K)[i]? = some p ∧ x = #[.int .i64 (p.1 : Int), .int .i64 (p.2 : Int)]
/-- What Each's closure reads. -/
structure Eas (Da : Nat → Prop) (b1 b2 g N gs : Nat) (gv : Nat → Nat) (F : Nat → List Nat) (V : Nat → Value) (sv : Value) (S : List Nat) (w : World) : Prop where
  c1 : w.cell? ⟨b1, 0, none⟩ = some sv
  c2 : w.cell? ⟨b2, 0, none⟩ = some (.slice (some ⟨g, 0, none⟩) N N)
  st : Il gs sv S w
  ro : ∀ v, v < N → w.cell? ⟨g, v, none⟩ = some (V v) ∧ Il (gv v) (V v) (F v) w
  d1 : Da b1
  d2 : Da b2
  ds : 0 < S.length → Da gs
  dg : Da g
  dv : ∀ v, v < N → 0 < (F v).length → Da (gv v)
section
variable {Da : Nat → Prop} {b1 b2 g N gs : Nat} {gv : Nat → Nat} {F : Nat → List Nat} {V : Nat → Value} {sv : Value} {S : List Nat} {w w' : World}
theorem Eas.keep (h : Eas Da b1 b2 g N gs gv F V sv S w) (hs : w.heap.size ≤ w'.heap.size) (hb : ∀ k, Da k → w'.heap[k]? = w.heap[k]?) : Eas Da b1 b2 g N gs gv F V sv S w' where
  c1 := (World.cell?_of_block (w := w) (a := ⟨b1, 0, none⟩) (hb b1 h.d1)).trans h.c1
  c2 := (World.cell?_of_block (w := w) (a := ⟨b2, 0, none⟩) (hb b2 h.d2)).trans h.c2
  st := h.st.keep0 hs fun hl => hb gs (h.ds hl)
  ro := fun v hv => ⟨(World.cell?_of_block (w := w) (a := ⟨g, v, none⟩) (hb g h.dg)).trans (h.ro v hv).1, (h.ro v hv).2.keep0 hs fun hl => hb _ (h.dv v hv hl)⟩
  d1 := h.d1
  d2 := h.d2
  ds := h.ds
  dg := h.dg
  dv := h.dv
end
set_option maxRecDepth 100000 in
/-- layers: a closure over two boxes. -/
theorem layers_any (w : World) {Da : Nat → Prop} {b1 b2 g N gs : Nat} {gv : Nat → Nat} {F : Nat → List Nat} {V : Nat → Value} {sv : Value} {S : List Nat} (h : Eas Da b1 b2 g N gs gv F V sv S w) (hDa : ∀ k, Da k → k < w.heap.size) :
    Calls Try.prog 47 #[sv, nOf g N] w fun e w' => ∃ a b, e = .returned (.func (.func 71) #[] #[.pointer (some ⟨a, 0, none⟩), .pointer (some ⟨b, 0, none⟩)]) ∧ w.heap.size ≤ a ∧ a < w'.heap.size ∧ w.heap.size ≤ b ∧ b < w'.heap.size ∧ Below w.heap.size w w' ∧ Lys (fun k => Da k ∨ k = a ∨ k = b) a b g N gs gv F V sv S w' := by
  have b1 : Below w.heap.size w ((w.alloc (.cells #[sv] 32)).alloc (.cells #[nOf g N] 76)) := ((Below.refl _ w).alloc (Nat.le_refl _) _).alloc (by simp) _
  have HL : Hid (Lys (fun k => Da k ∨ k = w.heap.size ∨ k = w.heap.size + 1) w.heap.size (w.heap.size + 1) g N gs gv F V sv S ((w.alloc (.cells #[sv] 32)).alloc (.cells #[nOf g N] 76))) := by
    have h2 := h.keep (Da := Da) b1.size (fun k hk => b1.block k (hDa k hk))
    have e1 := heap_alloc_new w (.cells #[sv] 32)
    have e2 := heap_alloc_new (w.alloc (.cells #[sv] 32)) (.cells #[nOf g N] 76)
    rw [World.size_alloc] at e2
    have e1' := (Below.heap_alloc (w.alloc (.cells #[sv] 32)) (.cells #[nOf g N] 76) w.heap.size (by simp)).trans e1
    exact ⟨(cell_of_row _ _ _ _ _ _ e1').trans rfl, (cell_of_row _ _ _ _ _ _ e2).trans rfl, h2.st, h2.ro, .inr (.inl rfl), .inr (.inr rfl), fun q => .inl (h2.ds q), .inl h2.dg, fun v hv q => .inl (h2.dv v hv q)⟩
  have HB := mkHid b1
  obtain ⟨os, cs, es, -⟩ := id h.st
  subst es
  obtain ⟨n, hn⟩ : ∃ n, S.length = n := ⟨_, rfl⟩
  rw [hn] at HL HB ⊢
  clear b1 h hDa hn
  unfold nOf at HL HB ⊢
  go_enter Try.func47, Try.ntmps47
  go_wp2_with fail
  go_ret
  refine ⟨_, _, rfl, ?_, ?_, ?_, ?_, HB.out, HL.out⟩ <;> simp <;> omega
end Go.Proofs.Ytgedmfcfhdfoeaa
