/- SieveBegins: the document's sieve, as it lies. -/
import Derived.Test.YtceaklefdahfkabBg2
namespace Go.Proofs.Ytceaklefdahfkab
open Go.RowKit
/-- Its cells. -/
def rfC (lv : Value) (fv : Nat → Value) (m : Nat) : Array Value := (lv :: ((List.range 256).map fv ++ [.int .i64 (m : Int)])).toArray
theorem rfC_0 (lv : Value) (fv : Nat → Value) (m : Nat) : (rfC lv fv m)[0]? = some lv := by simp [rfC]
theorem rfC_f (lv : Value) (fv : Nat → Value) (m c : Nat) (h : c < 256) : (rfC lv fv m)[1 + c]? = some (fv c) := by
  unfold rfC
  rw [List.getElem?_toArray, Nat.add_comm 1 c, List.getElem?_cons_succ, List.getElem?_append_left (by simpa using h)]
  simp [h]
theorem rfC_w (lv : Value) (fv : Nat → Value) (m : Nat) : (rfC lv fv m)[257]? = some (.int .i64 (m : Int)) := by
  unfold rfC
  rw [List.getElem?_toArray, List.getElem?_cons_succ, List.getElem?_append_right (by simp)]
  simp
theorem rfC_s0 (lv v : Value) (fv : Nat → Value) (m : Nat) : (rfC lv fv m).setIfInBounds 0 v = rfC v fv m := by simp [rfC]
/-- One slice another. -/
def upd (fv : Nat → Value) (c : Nat) (v : Value) : Nat → Value := fun j => if j = c then v else fv j
theorem rfC_sf (lv v : Value) (fv : Nat → Value) (m c : Nat) (h : c < 256) : (rfC lv fv m).setIfInBounds (1 + c) v = rfC lv (upd fv c v) m := by
  unfold rfC
  rw [List.setIfInBounds_toArray, Nat.add_comm 1 c, List.set_cons_succ, List.set_append_left _ _ (by simpa using h)]
  congr 3
  apply List.ext_getElem
  · simp
  · intro i h1 h2
    simp [List.getElem_set, upd]
    by_cases hc : c = i
    · simp [hc]
    · simp [hc, Ne.symm hc]
theorem rfC_sw (lv : Value) (fv : Nat → Value) (m x : Nat) : (rfC lv fv m).setIfInBounds 257 (.int .i64 (x : Int)) = rfC lv fv x := by
  unfold rfC
  rw [List.setIfInBounds_toArray, List.set_cons_succ, List.set_append_right _ _ (by simp)]
  simp
set_option maxRecDepth 100000 in
theorem zero95 : Try.zeroCells108 = rfC (.slice none 0 0) (fun _ => .slice none 0 0) 0 := by kernel_rfl
structure Rf (g : Nat) (lv : Value) (fv : Nat → Value) (l : List ByteArray) (F : Nat → List Nat) (m : Nat) (w : World) : Prop where
  row : w.heap[g]? = some (.cells (rfC lv fv m) 108 (0, 0))
  ol : w.ownsRow (g + 1) 9 1 lv l.length (sk l).toList
  of : ∀ c, c < 256 → w.ownsRow (g + 1) 3 1 (fv c) (F c).length (ik .i64 (F c)).toList
  sl : ∀ c, c < 256 → ∀ k, lv.ownBlock = some k → ¬ (fv c).ownBlock = some k
  sf : ∀ c d, c < 256 → d < 256 → c ≠ d → ∀ k, (fv c).ownBlock = some k → ¬ (fv d).ownBlock = some k
theorem Rf.gz {g : Nat} {lv : Value} {fv : Nat → Value} {l : List ByteArray} {F : Nat → List Nat} {m : Nat} {w : World} (h : Rf g lv fv l F m w) : g + 1 ≤ w.heap.size := (Array.getElem?_eq_some_iff.1 h.row).1
theorem Rf.keep {g : Nat} {lv : Value} {fv : Nat → Value} {l : List ByteArray} {F : Nat → List Nat} {m : Nat} {w w' : World} (h : Rf g lv fv l F m w) (hb : ∀ j, g ≤ j → j < w.heap.size → w'.heap[j]? = w.heap[j]?) : Rf g lv fv l F m w' :=
  ⟨(hb g (Nat.le_refl _) h.gz).trans h.row, own_keep2 h.ol fun k hk => hb k (by have := (h.ol.lt k hk).1; omega) (h.ol.lt k hk).2, fun c hc => own_keep2 (h.of c hc) fun k hk => hb k (by have := ((h.of c hc).lt k hk).1; omega) ((h.of c hc).lt k hk).2, h.sl, h.sf⟩
theorem Rf.below {g : Nat} {lv : Value} {fv : Nat → Value} {l : List ByteArray} {F : Nat → List Nat} {m : Nat} {w w' : World} (h : Rf g lv fv l F m w) (hb : Below w.heap.size w w') : Rf g lv fv l F m w' := h.keep fun j _ hj => hb.block j hj
theorem run_apS2 (w : World) (base n ty : Nat) (v : Value) (l : List ByteArray) (s : ByteArray) (hown : w.ownsRow base 9 1 v n (sk l).toList) (hb : n ≤ 1048576) (hbase : base ≤ w.heap.size) :
    ∃ v' w', (apS ty #[v, .slice (some ⟨w.heap.size, 0, none⟩) 1 1]).run Try.prog (w.alloc (.cells #[.string s] 9)) = .ok v' w' ∧ w'.ownsRow base 9 1 v' (n + 1) (sk (l ++ [s])).toList ∧ (w.alloc (.cells #[.string s] 9)).grownBy w' v.ownBlock ∧ (v'.ownBlock = v.ownBlock ∨ v'.ownBlock = some (w.heap.size + 1)) := by
  obtain ⟨i0, hi0, hz0, hz1, hz2⟩ := info_parts info9
  obtain ⟨v', w', hr, ho, hg, _, hat⟩ := run_append_own_at (P := Try.prog) (w.alloc (.cells #[.string s] 9)) base 22 ty 9 i0 _ 1 16 Try.underlying22 hi0 hz0 hz1 hz2 rfl (by omega) v n _ (hown.alloc _) ⟨w.heap.size, 0, none⟩ 1 1 [.string s] rfl
    (World.news_of_block (cs := #[.string s]) (t := 9) (fr := (0, 0)) (heap_alloc_new w _)) (fun u hu => by simp at hu; subst hu; rfl) (by unfold maxLen; omega) (by omega) (by simp; omega)
  refine ⟨v', w', hr, by rw [sk_snoc]; exact ho, hg, ?_⟩
  rcases hat with hat | hat
  · exact .inl hat
  · exact .inr (by rw [hat]; simp)
/-- A text more. -/
theorem Rf.addL {g : Nat} {lv : Value} {fv : Nat → Value} {l : List ByteArray} {F : Nat → List Nat} {m : Nat} {w : World} (h : Rf g lv fv l F m w) (s : ByteArray) (hb : l.length ≤ 1048576) :
    ∃ v' w', (apS 22 #[lv, .slice (some ⟨w.heap.size, 0, none⟩) 1 1]).run Try.prog (w.alloc (.cells #[.string s] 9)) = .ok v' w' ∧ w'.cell? ⟨g, 0, none⟩ = some lv ∧ w'.frozen? ⟨g, 0, none⟩ = false ∧ Rf g v' fv (l ++ [s]) F m (w'.setCell ⟨g, 0, none⟩ v') ∧ ∀ B, B ≤ g → Below B w (w'.setCell ⟨g, 0, none⟩ v') := by
  have gz := h.gz
  obtain ⟨v', w', r, ho, hg, hat⟩ := run_apS2 w (g + 1) l.length 22 lv l s h.ol hb gz
  have old : ∀ j, j < w.heap.size → ¬ lv.ownBlock = some j → w'.heap[j]? = w.heap[j]? := fun j hj hn => grown_old hg j hj hn
  have nlg : ¬ lv.ownBlock = some g := fun e => by have := (h.ol.lt g e).1; omega
  have rg : w'.heap[g]? = _ := (old g gz nlg).trans h.row
  have o : ∀ j, j ≠ g → (w'.setCell ⟨g, 0, none⟩ v').heap[j]? = w'.heap[j]? := fun j hj => heap_setCell_other _ _ _ _ hj
  have z : w.heap.size ≤ w'.heap.size := by have := hg.size; simp at this; omega
  refine ⟨v', w', r, (cell_of_row w' g 0 _ _ _ rg).trans (rfC_0 _ _ _), frozen_of_row w' _ _ _ _ rg, ⟨?_, ?_, fun c hc => ?_, fun c hc k hk => ?_, h.sf⟩, fun B hB => ⟨by show w'.os = _; rw [hg.os]; rfl, by show w'.tape = _; rw [hg.tape]; rfl, by show w'.output = _; rw [hg.output]; rfl, by simpa [World.setCell] using z, fun j hj => (o j (by omega)).trans (old j (by omega) fun e => by have := (h.ol.lt j e).1; omega)⟩⟩
  · rw [heap_setCell_same _ _ _ _ _ _ rg, rfC_s0]
  · rw [List.length_append, List.length_singleton]
    exact own_keep2 ho fun k hk => o k (by have := (ho.lt k hk).1; omega)
  · exact own_keep2 (h.of c hc) fun k hk => (o k (by have := ((h.of c hc).lt k hk).1; omega)).trans (old k ((h.of c hc).lt k hk).2 fun e => h.sl c hc k e hk)
  · rcases hat with e | e
    · rw [e] at hk; exact h.sl c hc k hk
    · rw [e] at hk
      cases hk
      intro e2
      have := ((h.of c hc).lt _ e2).2
      omega
def apN (ty : Nat) (vs : Array Value) : Sem Value := Builtin.append_ #[81, 81] ty vs
theorem toApN (ty : Nat) (vs : Array Value) : Builtin.append_ #[81, 81] ty vs = apN ty vs := rfl
/-- A number more. -/
theorem Rf.addF {g : Nat} {lv : Value} {fv : Nat → Value} {l : List ByteArray} {F : Nat → List Nat} {m : Nat} {w : World} (h : Rf g lv fv l F m w) (c : Nat) (hc : c < 256) (x : Nat) (hb : (F c).length ≤ 1048576) :
    ∃ v' w', (apN 81 #[fv c, .slice (some ⟨w.heap.size, 0, none⟩) 1 1]).run Try.prog (w.alloc (.cells #[.int .i64 (x : Int)] 3)) = .ok v' w' ∧ w'.cell? ⟨g, 1 + c, none⟩ = some (fv c) ∧ w'.frozen? ⟨g, 1 + c, none⟩ = false ∧ Rf g lv (upd fv c v') l (fun d => if d = c then F c ++ [x] else F d) m (w'.setCell ⟨g, 1 + c, none⟩ v') ∧ ∀ B, B ≤ g → Below B w (w'.setCell ⟨g, 1 + c, none⟩ v') := by
  have gz := h.gz
  obtain ⟨v', w', r, ho, hg, hat⟩ := run_ap1 (T := 81) (e := 3) (k := .i64) info3 (by omega) Try.underlying81 w (g + 1) (F c).length 81 (fv c) (F c) x (h.of c hc) (by omega) gz
  have old : ∀ j, j < w.heap.size → ¬ (fv c).ownBlock = some j → w'.heap[j]? = w.heap[j]? := fun j hj hn => grown_old hg j hj hn
  have nlg : ¬ (fv c).ownBlock = some g := fun e => by have := ((h.of c hc).lt g e).1; omega
  have rg : w'.heap[g]? = _ := (old g gz nlg).trans h.row
  have o : ∀ j, j ≠ g → (w'.setCell ⟨g, 1 + c, none⟩ v').heap[j]? = w'.heap[j]? := fun j hj => heap_setCell_other _ _ _ _ hj
  have z : w.heap.size ≤ w'.heap.size := by have := hg.size; simp at this; omega
  have new : ∀ u : Value, (∀ k, u.ownBlock = some k → k < w.heap.size) → (∀ k, (fv c).ownBlock = some k → ¬ u.ownBlock = some k) → ∀ k, v'.ownBlock = some k → ¬ u.ownBlock = some k := fun u h1 h2 k hk e => by
    rcases hat with q | q
    · rw [q] at hk; exact h2 k hk e
    · rw [q] at hk
      cases hk
      have := h1 _ e
      omega
  refine ⟨v', w', r, (cell_of_row w' g _ _ _ _ rg).trans (rfC_f _ _ _ c hc), frozen_of_row w' _ _ _ _ rg, ⟨?_, ?_, fun d hd => ?_, fun d hd k hk => ?_, fun d d' hd hd' hne k hk => ?_⟩, fun B hB => ⟨by show w'.os = _; rw [hg.os]; rfl, by show w'.tape = _; rw [hg.tape]; rfl, by show w'.output = _; rw [hg.output]; rfl, by simpa [World.setCell] using z, fun j hj => (o j (by omega)).trans (old j (by omega) fun e => by have := ((h.of c hc).lt j e).1; omega)⟩⟩
  · rw [heap_setCell_same _ _ _ _ _ _ rg, rfC_sf _ _ _ _ _ hc]
  · exact own_keep2 h.ol fun k hk => (o k (by have := (h.ol.lt k hk).1; omega)).trans (old k (h.ol.lt k hk).2 (h.sl c hc k hk))
  · by_cases hdc : d = c
    · subst hdc
      simp only [upd, if_true]
      rw [List.length_append, List.length_singleton]
      exact own_keep2 ho fun k hk => o k (by have := (ho.lt k hk).1; omega)
    · simp only [upd, if_neg hdc]
      exact own_keep2 (h.of d hd) fun k hk => (o k (by have := ((h.of d hd).lt k hk).1; omega)).trans (old k ((h.of d hd).lt k hk).2 (h.sf d c hd hc hdc k hk))
  · by_cases hdc : d = c
    · subst hdc
      simp only [upd, if_true]
      intro e
      exact new lv (fun k hk => (h.ol.lt k hk).2) (fun k hk e => h.sl d hd k e hk) k e hk
    · simp only [upd, if_neg hdc]; exact h.sl d hd k hk
  · by_cases hdc : d = c
    · subst hdc
      simp only [upd, if_true] at hk
      simp only [upd, if_neg (Ne.symm hne)]
      exact new (fv d') (fun k hk => ((h.of d' hd').lt k hk).2) (h.sf d d' hd hd' hne) k hk
    · simp only [upd, if_neg hdc] at hk
      by_cases hdc2 : d' = c
      · subst hdc2
        simp only [upd, if_true]
        intro e
        exact new (fv d) (fun k hk => ((h.of d hd).lt k hk).2) (fun k hk e => h.sf d d' hd hd' hdc k e hk) k e hk
      · simp only [upd, if_neg hdc2]; exact h.sf d d' hd hd' hne k hk
end Go.Proofs.Ytceaklefdahfkab
