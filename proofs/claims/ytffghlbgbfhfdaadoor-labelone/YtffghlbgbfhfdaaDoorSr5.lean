/- LabelSorts: Sort, the code's. -/
import Derived.Test.YtffghlbgbfhfdaaDoorSr4
import Derived.Laws.MakeOwn
import Derived.Laws.CopyRow
namespace Go.Proofs.YtffghlbgbfhfdaaDoor
open Go.RowKit Go.Shelf Go.Sort
/-- A slice of labels. -/
def Ls (v : Value) (L : List Lb) (w : World) : Prop := (L = [] ∧ ∃ o c, v = .slice o 0 c ∧ c ≤ maxLen ∧ (o = none → c = 0)) ∨ ∃ b off cap, v = .slice (some ⟨b, off, none⟩) L.length cap ∧ L.length ≤ cap ∧ cap ≤ maxLen ∧ b < w.heap.size ∧ Lr b off L w
theorem Lr.keep {g o : Nat} {L : List Lb} {w w' : World} (h : Lr g o L w) (hb : w'.heap[g]? = w.heap[g]?) : Lr g o L w' := fun i x hx j v hv => (World.cell?_of_block (w := w) hb).trans (h i x hx j v hv)
theorem Ls.keep {v : Value} {L : List Lb} {w w' : World} (h : Ls v L w) (hs : w.heap.size ≤ w'.heap.size) (hb : ∀ j, j < w.heap.size → w'.heap[j]? = w.heap[j]?) : Ls v L w' := by
  rcases h with h | ⟨b, off, cap, h1, h2, h3, h4, h5⟩
  · exact .inl h
  · exact .inr ⟨b, off, cap, h1, h2, h3, by omega, h5.keep (hb b h4)⟩
theorem Ls.below {v : Value} {L : List Lb} {w w' : World} (h : Ls v L w) (hb : Below w.heap.size w w') : Ls v L w' := h.keep hb.size hb.block
theorem Ls.form {v : Value} {L : List Lb} {w : World} (h : Ls v L w) : ∃ o c, v = .slice o L.length c ∧ L.length ≤ c ∧ c ≤ maxLen := by
  rcases h with ⟨rfl, o, c, rfl, hc, _⟩ | ⟨b, off, cap, rfl, h2, h3, _⟩
  · exact ⟨o, c, rfl, Nat.zero_le _, hc⟩
  · exact ⟨_, cap, rfl, h2, h3⟩
def cells (L : List Lb) : List Value := (flatK enc 21 L.toArray).toList
theorem cells_len (L : List Lb) : (cells L).length = L.length * 21 := by simp [cells]
theorem cells_get (L : List Lb) (j : Nat) (hj : j < L.length * 21) : ∃ x, L[j / 21]? = some x ∧ (cells L)[j]? = (enc x)[j % 21]? := by
  have hi : j / 21 < L.length := by omega
  refine ⟨L[j / 21], List.getElem?_eq_getElem hi, ?_⟩
  have h1 : j < (flatK enc 21 L.toArray).size := by simpa using hj
  unfold cells
  rw [Array.getElem?_toList, Array.getElem?_eq_getElem h1]
  have h2 := get_flatK enc 21 L.toArray j (by simpa using hj)
  rw [getElem!_pos _ j h1] at h2
  rw [h2]
  have h3 : L.toArray[j / 21]! = L[j / 21] := by rw [getElem!_pos _ _ (by simpa using hi)]; simp
  rw [h3]
  have h4 : j % 21 < (enc L[j / 21]).length := by rw [enc_len]; omega
  rw [getElem!_pos (enc L[j / 21]) _ h4, List.getElem?_eq_getElem h4]
theorem cells_one (L : List Lb) : ∀ v ∈ cells L, v.oneCell' = true := by
  intro v hv
  obtain ⟨j, hj, rfl⟩ := List.getElem_of_mem hv
  have hj2 : j < L.length * 21 := by rw [← cells_len]; exact hj
  obtain ⟨x, _, h2⟩ := cells_get L j hj2
  rw [List.getElem?_eq_getElem hj] at h2
  exact enc_one x _ (List.mem_of_getElem? h2.symm)
theorem lr_cells {b off : Nat} {L : List Lb} {w : World} (h : Lr b off L w) (j : Nat) (v : Value) (hv : (cells L)[j]? = some v) : w.cell? ((⟨b, off, none⟩ : Addr).add j) = some v := by
  have hj : j < L.length * 21 := by rw [← cells_len]; exact (List.getElem?_eq_some_iff.1 hv).1
  obtain ⟨x, h1, h2⟩ := cells_get L j hj
  rw [Addr.add_mid]
  have := h _ x h1 (j % 21) v (h2.symm.trans hv)
  rw [show off + j / 21 * 21 + j % 21 = off + j by omega] at this
  exact this
def mkL (l c : Value) : Sem Value := Instr.makeSlice 22 l c
theorem toMkL (l c : Value) : Instr.makeSlice 22 l c = mkL l c := rfl
theorem info29 : (Tryd.prog.info? 60).map (fun i => (i.zero, i.size, i.bytes)) = some (some (.agg (lab z20 ⟨#[]⟩)), 21, 40) := by kernel_rfl
theorem run_mkL (w : World) (n : Nat) (hn : n ≤ 4398046511104) : ∃ w', (mkL (.int .i64 (n : Int)) (.int .i64 (n : Int))).run Tryd.prog w = .ok (.slice (some ⟨w.heap.size, 0, none⟩) n n) w' ∧ (∃ C : Array Value, C.size = n * 21 ∧ w'.heap[w.heap.size]? = some (.cells C 60 (0, 0))) ∧ Below w.heap.size w w' := by
  obtain ⟨i0, hi0, hz0, hz1, hz2⟩ := info_parts info29
  have hr := run_make (P := Tryd.prog) w 22 60 i0 _ Tryd.underlying22 hi0 hz0 .i64 .i64 n n (by omega) (Int.le_refl _) (by rw [hz2]; omega) (by omega)
  simp only [Int.toNat_natCast] at hr
  refine ⟨_, hr, ⟨_, ?_, heap_alloc_new w _⟩, (Below.refl _ w).alloc (Nat.le_refl _) _⟩
  rw [size_madeCells, hz1]
def cpL (ty : Nat) (vs : Array Value) : Sem Value := Builtin.copy_ #[22, 22] ty vs
theorem toCp (ty : Nat) (vs : Array Value) : Builtin.copy_ #[22, 22] ty vs = cpL ty vs := rfl
theorem run_cpL (w : World) (ty g b off c n cap : Nat) (cs : List Value) (hn : cs.length = n * 21) (hsrc : ∀ j v, cs[j]? = some v → w.cell? ((⟨b, off, none⟩ : Addr).add j) = some v) (ht : w.there g 0 (n * 21)) (h1 : ∀ v ∈ cs, v.oneCell' = true) :
    (cpL ty #[.slice (some ⟨g, 0, none⟩) n c, .slice (some ⟨b, off, none⟩) n cap]).run Tryd.prog w = .ok (goInt n) (w.setCells g 0 cs) := by
  have hl := run_loadCells_list (P := Tryd.prog) w ⟨b, off, none⟩ cs hsrc
  have hst := run_storeCells_cells (P := Tryd.prog) g 0 cs 0 w (fun j hj => by rw [Nat.add_zero]; exact (ht j (by omega)).1) (fun j hj => by rw [Nat.add_zero]; exact (ht j (by omega)).2) h1
  have hs := size29
  unfold cpL
  cases hq : Tryd.prog.info? 60 with
  | none => simp [hq] at hs
  | some i =>
    have hi : i.size = 21 := by simpa [hq] using hs
    rw [hn] at hl
    simp [Builtin.copy_, run_underlying Tryd.underlying22, Builtin.lenOf, Builtin.firstCells, sizeOf, typeInfo, hq, hi, hl, hst]
theorem run_cpL0 (w : World) (ty g c c' : Nat) (o : Option Addr) : (cpL ty #[.slice (some ⟨g, 0, none⟩) 0 c, .slice o 0 c']).run Tryd.prog w = .ok (goInt 0) w := by
  have hs := size29
  unfold cpL
  cases hq : Tryd.prog.info? 60 with
  | none => simp [hq] at hs
  | some i =>
    cases o with
    | none => simp [Builtin.copy_, run_underlying Tryd.underlying22, Builtin.lenOf, Builtin.firstCells, sizeOf, typeInfo, hq, storeCells]
    | some a =>
      have hl := run_loadCells_list (P := Tryd.prog) w a [] (fun j v hv => by simp at hv)
      simp only [List.length_nil] at hl
      simp [Builtin.copy_, run_underlying Tryd.underlying22, Builtin.lenOf, Builtin.firstCells, sizeOf, typeInfo, hq, hl, storeCells]
theorem there_row {g n : Nat} {C : Array Value} {t : TypeId} {w : World} (h : w.heap[g]? = some (.cells C t (0, 0))) (hn : n ≤ C.size) : w.there g 0 n := fun j hj => by
  rw [Nat.zero_add]
  refine ⟨?_, ?_⟩
  · rw [cell_of_row w _ _ _ _ _ h, Array.getElem?_eq_getElem (by omega)]; rfl
  · simp [World.frozen?, h]
theorem holds_cells {g : Nat} {L : List Lb} {w : World} (ht : w.there g 0 (L.length * 21)) : HoldsK enc 21 (w.setCells g 0 (cells L)) g 0 L.toArray := by
  intro j hj
  have hj2 : j < L.length * 21 := by simpa using hj
  have hjc : j < (cells L).length := by rw [cells_len]; exact hj2
  refine ⟨?_, ?_⟩
  · have := World.cell?_setCells_in g (cells L) 0 w (fun i hi => (ht i (by rw [cells_len] at hi; exact hi)).1) j hjc
    rw [this]
    have h1 : j < (flatK enc 21 L.toArray).size := hj
    rw [getElem!_pos (flatK enc 21 L.toArray) j h1]
    rfl
  · rw [World.frozen?_setCells]
    exact (ht j hj2).2
attribute [local go_sem ↓] toMkL toCp
set_option maxRecDepth 100000 in
set_option maxHeartbeats 1000000 in
theorem sortC_any (L : List Lb) (hn : L.length ≤ 4398046511104) (v : Value) (w : World) (hv : Ls v L w) :
    Calls Tryd.prog 11 #[v] w fun e w' => e = .returned (.slice (some ⟨w.heap.size, 0, none⟩) (dd (srt L)).length L.length) ∧ (dd (srt L)).length ≤ L.length ∧ Lr w.heap.size 0 (dd (srt L)) w' ∧ Below w.heap.size w w' ∧ w.heap.size < w'.heap.size ∧ ∃ C, w'.heap[w.heap.size]? = some (.cells C 60 (0, 0)) := by
  obtain ⟨o, c, rfl, -, -⟩ := hv.form
  obtain ⟨W1, r1, ⟨C, hC, hrow⟩, b1⟩ := run_mkL w L.length hn
  have th1 : W1.there w.heap.size 0 (L.length * 21) := there_row hrow (by omega)
  have hg : w.heap.size < W1.heap.size := (Array.getElem?_eq_some_iff.1 hrow).1
  obtain ⟨W2, r2, hH, b2, z2⟩ : ∃ W2, (∀ ty, (cpL ty #[.slice (some ⟨w.heap.size, 0, none⟩) L.length L.length, .slice o L.length c]).run Tryd.prog W1 = .ok (goInt L.length) W2) ∧ HoldsK enc 21 W2 w.heap.size 0 L.toArray ∧ But1 w.heap.size W1 W2 ∧ w.heap.size < W2.heap.size := by
    rcases hv.below b1 with ⟨h0, -⟩ | ⟨b, off, cap, he, -, -, -, hr⟩
    · subst h0
      refine ⟨W1, fun ty => run_cpL0 W1 ty w.heap.size 0 c o, ?_, But1.refl _ _, hg⟩
      intro j hj
      simp at hj
    · obtain ⟨rfl, rfl⟩ : o = some ⟨b, off, none⟩ ∧ c = cap := by simp only [Value.slice.injEq] at he; exact ⟨he.1, he.2.2⟩
      refine ⟨W1.setCells w.heap.size 0 (cells L), fun ty => run_cpL W1 ty w.heap.size b off L.length L.length c (cells L) (cells_len L) (lr_cells hr) th1 (cells_one L), holds_cells th1, (But1.refl _ _).setCells _ _, by rw [size_setCells]; exact hg⟩
  have C3 : Hid _ := sort_any L (by omega) w.heap.size L.length W2 hH z2
  have HB : Hid (Below w.heap.size w W2) := b1.trans (b2.below (Nat.le_refl _) (by omega))
  obtain ⟨n, hn0⟩ : ∃ n, n = L.length := ⟨_, rfl⟩
  have HN : Hid (n = L.length) := hn0
  have HZ : Hid (w.heap.size < W2.heap.size) := z2
  have HT2 : Hid (∃ C, W2.heap[w.heap.size]? = some (.cells C 60 (0, 0))) := b2.tag _ _ hrow
  rw [← hn0] at r1 r2 C3 ⊢
  clear hn0 hv hrow hC C th1 hH b1 b2 z2 hg
  go_enter Tryd.func11, Tryd.ntmps11
  go_wp2_with fail
  refine Calls.mono C3.out ?_
  rintro e W3 ⟨rfl, hH3, b3⟩
  obtain ⟨hl3, ht3⟩ := holds_lr hH3
  have C4 : Hid (Calls Tryd.prog 23 #[.slice (some ⟨w.heap.size, 0, none⟩) n n] W3 fun e w' => e = .returned (.slice (some ⟨w.heap.size, 0, none⟩) (dd (srt L)).length n) ∧ (dd (srt L)).length ≤ n ∧ Lr w.heap.size 0 (dd (srt L)) w' ∧ But1 w.heap.size W3 w') := by
    have := compact_any (srt L) (by rw [srt_len]; omega) w.heap.size L.length (by rw [srt_len]; omega) W3 hl3 ht3
    rw [srt_len, ← HN.out] at this
    exact this
  have HT3 : Hid (∃ C, W3.heap[w.heap.size]? = some (.cells C 60 (0, 0))) := by
    obtain ⟨C, e⟩ := HT2.out
    exact b3.tag _ _ e
  have HB3 : Hid (Below w.heap.size w W3 ∧ w.heap.size < W3.heap.size) := ⟨HB.out.trans (b3.below (Nat.le_refl _) (by have := HZ.out; omega)), by have := b3.size; have := HZ.out; omega⟩
  clear C3 hH3 b3 hl3 ht3 r1 r2 HB HZ
  go_wp2_with fail
  refine Calls.mono C4.out ?_
  rintro e W4 ⟨rfl, k4, l4, b4⟩
  have HF : Hid ((dd (srt L)).length ≤ n ∧ Lr w.heap.size 0 (dd (srt L)) W4 ∧ Below w.heap.size w W4 ∧ w.heap.size < W4.heap.size) := ⟨k4, l4, HB3.out.1.trans (b4.below (Nat.le_refl _) (by have := HB3.out.2; omega)), by have := b4.size; have := HB3.out.2; omega⟩
  have HT4 : Hid (∃ C, W4.heap[w.heap.size]? = some (.cells C 60 (0, 0))) := by
    obtain ⟨C, e⟩ := HT3.out
    exact b4.tag _ _ e
  clear k4 l4 b4 C4 HB3
  go_wp2
  go_ret
  exact ⟨rfl, HF.out.1, HF.out.2.1, HF.out.2.2.1, HF.out.2.2.2, HT4.out⟩
end Go.Proofs.YtffghlbgbfhfdaaDoor
