/- The law's hoard: take. -/
import Derived.Test.YtkppejaigodgiabDoorRfT
import Derived.Test.YtkppejaigodgiabDoorB64R
import Derived.Test.YtkppejaigodgiabDoorGr
import Derived.BigRegion
namespace Go.Proofs.YtkppejaigodgiabDoor
open Go.RowKit
theorem info22 : (Tryd.prog.info? 22).map (fun i => (i.zero, i.size, i.bytes)) = some (some (.slice none 0 0), 1, 24) := by kernel_rfl
def ap4 (ty : Nat) (vs : Array Value) : Sem Value := Builtin.append_ #[40, 40] ty vs
theorem toAp4 (ty : Nat) (vs : Array Value) : Builtin.append_ #[40, 40] ty vs = ap4 ty vs := rfl
theorem run_ap4 (w : World) (base n ty : Nat) (v x : Value) (xs : List Value) (hown : w.ownsRow base 22 1 v n xs) (hx : x.oneCell' = true) (hb : n + 1 ≤ 1048576) (hbase : base ≤ w.heap.size) :
    ∃ v' w', (ap4 ty #[v, .slice (some ⟨w.heap.size, 0, none⟩) 1 1]).run Tryd.prog (w.alloc (.cells #[x] 22)) = .ok v' w' ∧ w'.ownsRow base 22 1 v' (n + 1) (xs ++ [x]) ∧ (w.alloc (.cells #[x] 22)).grownBy w' v.ownBlock ∧ (∀ k, v'.ownBlock = some k → v.ownBlock = some k ∨ w.heap.size < k) := by
  obtain ⟨i0, hi0, hz0, hz1, hz2⟩ := info_parts info22
  obtain ⟨v', w', hr, ho, hg, _, hat⟩ := run_append_own_at (P := Tryd.prog) (w.alloc (.cells #[x] 22)) base 40 ty 22 i0 _ 1 24 (by kernel_rfl) hi0 hz0 hz1 hz2 rfl (by omega) v n _ (hown.alloc _) ⟨w.heap.size, 0, none⟩ 1 1 [x] rfl (fun j u hu => by
    have hj : j = 0 := by have := (List.getElem?_eq_some_iff.1 hu).1; simp at this; exact this
    subst hj
    have : u = x := by simpa using hu.symm
    subst this
    exact (cell_of_row (w.alloc (.cells #[u] 22)) w.heap.size 0 #[u] 22 (0, 0) (heap_alloc_new w (.cells #[u] 22))).trans rfl) (fun u hu => by
      have : u = x := by simpa using hu
      rw [this]; exact hx) (by unfold maxLen; omega) (by omega) (by simp; omega)
  refine ⟨v', w', hr, ho, hg, fun k hk => ?_⟩
  rcases hat with hat | hat
  · exact .inl (hat.symm.trans hk)
  · rw [hat] at hk
    have := Option.some.inj hk
    simp at this
    exact .inr (by omega)
theorem own_keep {w w' : World} {B e n : Nat} {v : Value} {xs : List Value} (h : w.ownsRow B e 1 v n xs) (hb : ∀ k, v.ownBlock = some k → w'.heap[k]? = w.heap[k]?) : w'.ownsRow B e 1 v n xs := by
  obtain ⟨h0, h1 | ⟨g, cap, cur, rfl, h2, h3, h4⟩⟩ := h
  · exact ⟨h0, .inl h1⟩
  · exact ⟨h0, .inr ⟨g, cap, cur, rfl, h2, (hb g rfl).trans h3, h4⟩⟩
theorem own_slice {w : World} {B e n : Nat} {v : Value} {xs : List Value} (h : w.ownsRow B e 1 v n xs) : ∃ o c, v = .slice o n c := by
  obtain ⟨_, ⟨rfl, rfl⟩ | ⟨_, _, _, rfl, _⟩⟩ := h <;> exact ⟨_, _, rfl⟩
/-- The hoard: where it lies, what was taken and what was copied. -/
structure Hd (g : Nat) (vl vw : Value) (xs ws : List Value) (w : World) : Prop where
  row : w.heap[g]? = some (.cells #[vl, vw] 42 (0, 0))
  l : w.ownsRow (g + 1) 22 1 vl xs.length xs
  w : w.ownsRow (g + 1) 22 1 vw xs.length ws
  ne : ∀ k, vl.ownBlock = some k → ¬ vw.ownBlock = some k
attribute [local go_sem ↓] toApp toAp4
set_option maxRecDepth 100000 in
set_option maxHeartbeats 3200000 in
theorem take_any (g : Nat) (vl vw v : Value) (xs ws : List Value) (l : List Nat) (w : World) (hl : l.length ≤ 1099511627776) (hn : xs.length ≤ 1000)
    (h : Hd g vl vw xs ws w) (hv : Byl v l w) (hvb : ∀ k, v.ownBlock = some k → k ≠ g ∧ ¬ vl.ownBlock = some k ∧ ¬ vw.ownBlock = some k) :
    Calls Tryd.prog 47 #[.pointer (some ⟨g, 0, none⟩), v] w fun e w' => ∃ vl' vw' x, e = .returned (.tuple #[]) ∧ Hd g vl' vw' (xs ++ [v]) (ws ++ [x]) w' ∧ Byl x l w' ∧ (∀ k, x.ownBlock = some k → w.heap.size ≤ k ∧ ¬ vl'.ownBlock = some k ∧ ¬ vw'.ownBlock = some k) ∧
      (∀ k, vl'.ownBlock = some k → vl.ownBlock = some k ∨ w.heap.size ≤ k) ∧ (∀ k, vw'.ownBlock = some k → vw.ownBlock = some k ∨ w.heap.size ≤ k) ∧
      w'.os = w.os ∧ w'.tape = w.tape ∧ w'.output = w.output ∧ w.heap.size ≤ w'.heap.size ∧ ∀ k, k < w.heap.size → k ≠ g → ¬ vl.ownBlock = some k → ¬ vw.ownBlock = some k → w'.heap[k]? = w.heap[k]? := by
  obtain ⟨hg, ho, hw, hne⟩ := h
  have hgz : g < w.heap.size := (Array.getElem?_eq_some_iff.1 hg).1
  obtain ⟨o, c, rfl, hq1, hq2, hq3⟩ := hv.form
  clear hq1 hq2 hq3
  obtain ⟨ol, cl, rfl⟩ := own_slice ho
  obtain ⟨ow, cw, rfl⟩ := own_slice hw
  have ltl := fun k hk => ho.lt k hk
  have ltw := fun k hk => hw.lt k hk
  obtain ⟨v1, w1, r1, o1, g1, a1⟩ := run_ap4 w (g + 1) xs.length 40 _ (.slice o l.length c) xs ho rfl (by omega) hgz
  obtain ⟨o2, c2, rfl⟩ := own_slice o1
  have hg1 : w1.heap[g]? = some (.cells #[.slice ol xs.length cl, .slice ow xs.length cw] 42 (0, 0)) := by
    rw [g1.block g (by simp; omega) (fun h => by have := ltl g h.symm; omega), heap_alloc_old _ _ (h := hgz)]; exact hg
  have c0 : w.cell? ⟨g, 0, none⟩ = some (.slice ol xs.length cl) := (cell_of_row w g 0 _ _ _ hg).trans rfl
  have f1 : w1.frozen? ⟨g, 0, none⟩ = false := frozen_of_row w1 _ _ _ _ hg1
  have c1 : w1.cell? ⟨g, 0, none⟩ = some (.slice ol xs.length cl) := (cell_of_row w1 g 0 _ _ _ hg1).trans rfl
  obtain ⟨W2, hW2⟩ : ∃ W2, w1.setCell ⟨g, 0, none⟩ (.slice o2 (xs.length + 1) c2) = W2 := ⟨_, rfl⟩
  have hz1 : w.heap.size < w1.heap.size := by have := g1.size; simp at this; omega
  have hz2 : W2.heap.size = w1.heap.size := by rw [← hW2]; simp [World.setCell]
  have hb2 : ∀ k, k < w.heap.size → k ≠ g → ¬ (Value.slice ol xs.length cl).ownBlock = some k → W2.heap[k]? = w.heap[k]? := fun k hk hkg hkl => by
    rw [← hW2, heap_setCell_other _ _ _ _ hkg, g1.block k (by simp; omega) (fun h => hkl h.symm), heap_alloc_old _ _ (h := hk)]
  have hg2 : W2.heap[g]? = some (.cells #[.slice o2 (xs.length + 1) c2, .slice ow xs.length cw] 42 (0, 0)) := by
    rw [← hW2]; exact (heap_setCell_same _ _ _ _ _ _ hg1).trans rfl
  have lt1 := fun k hk => o1.lt k hk
  have l2 : W2.ownsRow (g + 1) 22 1 (.slice o2 (xs.length + 1) c2) (xs.length + 1) (xs ++ [.slice o l.length c]) := own_keep o1 fun k hk => by
    rw [← hW2]; exact heap_setCell_other _ _ _ _ (by have := (lt1 k hk).1; show k ≠ g; omega)
  have w2 : W2.ownsRow (g + 1) 22 1 (.slice ow xs.length cw) xs.length ws := own_keep hw fun k hk => hb2 k (ltw k hk).2 (by have := (ltw k hk).1; omega) (fun h => hne k h hk)
  have hv2 : Byl (.slice o l.length c) l W2 := byl_block hv (by omega) fun k hk => hb2 k (byl_lt hv k hk) (hvb k hk).1 (hvb k hk).2.1
  obtain ⟨D2, hD2⟩ : ∃ D2, W2.drew = D2 := ⟨_, rfl⟩
  have hzD : D2.heap.size = W2.heap.size := by rw [← hD2]; rfl
  have hgD : D2.heap[g]? = some (.cells #[.slice o2 (xs.length + 1) c2, .slice ow xs.length cw] 42 (0, 0)) := by rw [← hD2]; exact hg2
  have wD : D2.ownsRow (g + 1) 22 1 (.slice ow xs.length cw) xs.length ws := own_keep w2 fun k _ => by rw [← hD2]; rfl
  have lD : D2.ownsRow (g + 1) 22 1 (.slice o2 (xs.length + 1) c2) (xs.length + 1) (xs ++ [.slice o l.length c]) := own_keep l2 fun k _ => by rw [← hD2]; rfl
  have hvD : Byl (.slice o l.length c) l D2 := by rw [← hD2]; exact hv2.below (Below.refl _ _).drew
  obtain ⟨x, W3, r3, o3, g3⟩ := run_append_byl D2 D2.heap.size 0 22 (.slice none 0 0) (.slice o l.length c) [] l (World.ownsRow_nil _ _ _ _) hvD (by omega) (Nat.le_refl _)
  rw [List.nil_append, Nat.zero_add] at o3
  obtain ⟨ox, cx, rfl⟩ := own_slice o3
  have hg3 : W3.heap[g]? = some (.cells #[.slice o2 (xs.length + 1) c2, .slice ow xs.length cw] 42 (0, 0)) := (g3.block g (by omega) (fun h => by simp [Value.ownBlock] at h)).trans hgD
  have w3 := own_keep wD fun k hk => g3.block k ((wD.lt k hk).2) (fun h => by simp [Value.ownBlock] at h)
  obtain ⟨v4, W4, r4, o4, g4, a4⟩ := run_ap4 W3 (g + 1) xs.length 40 _ (.slice ox l.length cx) ws w3 rfl (by omega) (by have := g3.size; omega)
  obtain ⟨o5, c5, rfl⟩ := own_slice o4
  have hgA : (W3.alloc (.cells #[.slice ox l.length cx] 22)).heap[g]? = some (.cells #[.slice o2 (xs.length + 1) c2, .slice ow xs.length cw] 42 (0, 0)) := by
    rw [heap_alloc_old _ _ (h := (Array.getElem?_eq_some_iff.1 hg3).1)]; exact hg3
  have hg4 : W4.heap[g]? = some (.cells #[.slice o2 (xs.length + 1) c2, .slice ow xs.length cw] 42 (0, 0)) :=
    (g4.block g (Array.getElem?_eq_some_iff.1 hgA).1 (fun h => by have := (ltw g h.symm).1; omega)).trans hgA
  have d2 : D2.cell? ⟨g, 1, none⟩ = some (.slice ow xs.length cw) := (cell_of_row D2 g 1 _ _ _ hgD).trans rfl
  have d3 : W3.cell? ⟨g, 1, none⟩ = some (.slice ow xs.length cw) := (cell_of_row W3 g 1 _ _ _ hg3).trans rfl
  have dA : (W3.alloc (.cells #[.slice ox l.length cx] 22)).cell? ⟨g, 1, none⟩ = some (.slice ow xs.length cw) := (cell_of_row _ g 1 _ _ _ hgA).trans rfl
  have d4 : W4.cell? ⟨g, 1, none⟩ = some (.slice ow xs.length cw) := (cell_of_row W4 g 1 _ _ _ hg4).trans rfl
  have f4 : W4.frozen? ⟨g, 1, none⟩ = false := frozen_of_row W4 _ _ _ _ hg4
  have z3 := g3.size
  have z4 : W3.heap.size < W4.heap.size := by have := g4.size; simp at this; omega
  have lt4 := fun k hk => o4.lt k hk
  have hb3 : ∀ k, k < D2.heap.size → W3.heap[k]? = D2.heap[k]? := fun k hk => g3.block k hk (fun h => by simp [Value.ownBlock] at h)
  have hb4 : ∀ k, k < W3.heap.size → ¬ (Value.slice ow xs.length cw).ownBlock = some k → W4.heap[k]? = W3.heap[k]? := fun k hk hkw => by
    rw [g4.block k (by simp; omega) (fun h => hkw h.symm), heap_alloc_old _ _ (h := hk)]
  obtain ⟨W5, hW5⟩ : ∃ W5, W4.setCell ⟨g, 1, none⟩ (.slice o5 (xs.length + 1) c5) = W5 := ⟨_, rfl⟩
  have hb5 : ∀ k, k ≠ g → W5.heap[k]? = W4.heap[k]? := fun k hk => by rw [← hW5]; exact heap_setCell_other _ _ _ _ hk
  have z5 : W5.heap.size = W4.heap.size := by rw [← hW5]; simp [World.setCell]
  have lltD := fun k hk => lD.lt k hk
  have POST : Hid (∃ vl' vw' x, Hd g vl' vw' (xs ++ [.slice o l.length c]) (ws ++ [x]) W5 ∧ Byl x l W5 ∧ (∀ k, x.ownBlock = some k → w.heap.size ≤ k ∧ ¬ vl'.ownBlock = some k ∧ ¬ vw'.ownBlock = some k) ∧
      (∀ k, vl'.ownBlock = some k → (Value.slice ol xs.length cl).ownBlock = some k ∨ w.heap.size ≤ k) ∧ (∀ k, vw'.ownBlock = some k → (Value.slice ow xs.length cw).ownBlock = some k ∨ w.heap.size ≤ k) ∧
      W5.os = w.os ∧ W5.tape = w.tape ∧ W5.output = w.output ∧ w.heap.size ≤ W5.heap.size ∧ ∀ k, k < w.heap.size → k ≠ g → ¬ (Value.slice ol xs.length cl).ownBlock = some k → ¬ (Value.slice ow xs.length cw).ownBlock = some k → W5.heap[k]? = w.heap[k]?) := by
    have hll : (xs ++ [Value.slice o l.length c]).length = xs.length + 1 := by simp
    have nel : ∀ k, (Value.slice o2 (xs.length + 1) c2).ownBlock = some k → ¬ (Value.slice ow xs.length cw).ownBlock = some k := fun k hk hkw => by
      rcases a1 k hk with h | h
      · exact hne k h hkw
      · have := (ltw k hkw).2; omega
    refine ⟨.slice o2 (xs.length + 1) c2, .slice o5 (xs.length + 1) c5, .slice ox l.length cx, ⟨?_, ?_, ?_, ?_⟩, ?_, ?_, ?_, ?_, ?_, ?_, ?_, ?_, ?_⟩
    · rw [← hW5]; exact (heap_setCell_same _ _ _ _ _ _ hg4).trans rfl
    · rw [hll]
      exact own_keep lD fun k hk => by
        have := lltD k hk
        rw [hb5 k (by omega), hb4 k (by omega) (nel k hk), hb3 k this.2]
    · rw [hll]
      exact own_keep o4 fun k hk => hb5 k (by have := (lt4 k hk).1; omega)
    · intro k hk hk5
      rcases a4 k hk5 with h | h
      · exact nel k hk h
      · have := (lltD k hk).2; omega
    · refine byl_block (byl_own o3).1 (by omega) fun k hk => ?_
      have := o3.lt k hk
      rw [hb5 k (by omega), hb4 k this.2 (fun h => by have := (wD.lt k h).2; omega)]
    · intro k hk
      have h3 := o3.lt k hk
      refine ⟨by omega, fun h => by have := (lt1 k h).2; omega, fun h => ?_⟩
      rcases a4 k h with h | h
      · have := (ltw k h).2; omega
      · omega
    · intro k hk
      rcases a1 k hk with h | h
      · exact .inl h
      · exact .inr (by omega)
    · intro k hk
      rcases a4 k hk with h | h
      · exact .inl h
      · exact .inr (by omega)
    · rw [← hW5]; show W4.os = _; rw [g4.os]; show W3.os = _; rw [g3.os, ← hD2]; show W2.os = _; rw [← hW2]; show w1.os = _; rw [g1.os]; rfl
    · rw [← hW5]; show W4.tape = _; rw [g4.tape]; show W3.tape = _; rw [g3.tape, ← hD2]; show W2.tape = _; rw [← hW2]; show w1.tape = _; rw [g1.tape]; rfl
    · rw [← hW5]; show W4.output = _; rw [g4.output]; show W3.output = _; rw [g3.output, ← hD2]; show W2.output = _; rw [← hW2]; show w1.output = _; rw [g1.output]; rfl
    · omega
    · intro k hk hkg hkl hkw
      rw [hb5 k hkg, hb4 k (by omega) hkw, hb3 k (by omega), ← hD2]
      exact hb2 k hk hkg hkl
  clear hb3 hb4 hb5 z3 z4 z5 lt4 lltD
  go_enter Tryd.func47, Tryd.ntmps47
  go_wp2_with fail
  clear r1 hg1 c0 c1 f1 g1 hg
  go_region
  go_wp2
  go_end0
  obtain ⟨a, b, x, h⟩ := POST.out
  exact ⟨a, b, x, rfl, h⟩
end Go.Proofs.YtkppejaigodgiabDoor
