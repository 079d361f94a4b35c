/- The sieve: the patterns' numbers, sorted by text. -/
import Derived.Test.YtceaklefdahfkabSv20
import Derived.Shelf.SlSortCmp.NoneTotal
import Derived.Shelf.Lay
namespace Go.Proofs.Ytceaklefdahfkab
open Go.RowKit Go.Sort
shelf_lay_g SlLaysF.n6 Slsf 6 at Try 71 as Try.sortL
/-- The order of texts is one. -/
theorem swoT {α : Type} (f : α → List Nat) (cf : α → α → Int) (h : ∀ x y, cf x y < 0 ↔ f x < f y) : SWO (ltOf cf) where
  irrefl x := by
    unfold ltOf
    rw [decide_eq_false]
    rw [h]; exact List.lt_irrefl _
  trans x y z h1 h2 := by
    unfold ltOf at h1 h2 ⊢
    rw [decide_eq_true_iff] at h1 h2 ⊢
    rw [h] at h1 h2 ⊢
    exact List.lt_trans h1 h2
  ntrans x y z h1 h2 := by
    unfold ltOf at h1 h2 ⊢
    rw [decide_eq_false_iff_not] at h1 h2 ⊢
    rw [h] at h1 h2 ⊢
    rw [List.not_lt] at h1 h2 ⊢
    exact List.le_trans h2 h1
theorem sortWorld_below {α : Type} [Inhabited α] (enc : α → Value) (w : World) (blk off m : Nat) (d : Array α) (os : Array Obj) (hb : blk < w.heap.size) : Go.RowKit.Below blk w (sortWorld enc w blk off m d os) := by
  refine ⟨rfl, rfl, rfl, ?_, fun k hk => ?_⟩
  · unfold sortWorld grow
    simp [putRow, mapBlock, Sort.ahead]
  · unfold sortWorld
    rw [heap_grow_old _ _ (by simp [putRow, mapBlock, Sort.ahead]; omega)]
    simp only [putRow, mapBlock, Sort.ahead]
    rw [Array.getElem?_modify, if_neg (by omega)]
theorem sortWorld_cell {α : Type} [Inhabited α] (enc : α → Value) (w : World) (blk off m : Nat) (d : Array α) (os : Array Obj) (b o : Nat) (hb : b < w.heap.size) (hn : b ≠ blk) : (sortWorld enc w blk off m d os).cell? ⟨b, o, none⟩ = w.cell? ⟨b, o, none⟩ := by
  unfold sortWorld
  rw [cell?_grow _ _ _ (by simpa [Sort.ahead] using hb), cell?_putRow_other _ _ _ _ _ _ (.inl hn)]
  rfl
/-- A number below n + 1, as a cell. -/
def encF {k : Nat} (x : Fin (k + 1)) : Value := .int .i64 ((x.val : Nat) : Int)
theorem sortC (l : List ByteArray) (k : Nat) (hk : l.length = k + 1) (hl : l.length ≤ 4096) (gb gn b off c : Nat) (w : World) (hgb : gb < gn) (hbg : b < gn) (hbox : w.cell? ⟨gb, 0, none⟩ = some (.slice (some ⟨b, off, none⟩) l.length c))
    (hc : ∀ (j : Nat) s, l[j]? = some s → w.cell? ⟨b, off + j, none⟩ = some (.string s)) (hn : w.heap[gn]? = some (.cells (ik .i64 (List.range l.length)) 3 (0, 0))) :
    Calls Try.prog 71 #[.slice (some ⟨gn, 0, none⟩) l.length l.length, .func (.func 72) #[] #[.pointer (some ⟨gb, 0, none⟩)]] w fun e w' => e = .returned (.tuple #[]) ∧ ∃ ns, Srt l ns ∧ Si .i64 (.slice (some ⟨gn, 0, none⟩) l.length l.length) ns w' ∧ Go.RowKit.Below gn w w' := by
  have gz : gn < w.heap.size := (Array.getElem?_eq_some_iff.1 hn).1
  obtain ⟨d, hd⟩ : ∃ d : Array (Fin (k + 1)), d = (List.finRange (k + 1)).toArray := ⟨_, rfl⟩
  have hds : d.size = l.length := by rw [hd, hk]; simp
  have hdg : ∀ j (h : j < l.length), (d[j]!).val = j := fun j h => by
    rw [getElem!_pos d j (by omega)]
    simp [hd]
  have hcmp : CmpReads Try.prog 72 #[.pointer (some ⟨gb, 0, none⟩)] (encF (k := k)) (fun x y => cfV l x.val y.val) gn 0 d.size w := by
    intro m os dk hsz x y
    have hx : x.val < l.length := by omega
    have hy : y.val < l.length := by omega
    exact clos60 l x.val y.val hx hy b off c gb _ ((sortWorld_cell _ _ _ _ _ _ _ _ _ (by omega) (by omega)).trans hbox) ((sortWorld_cell _ _ _ _ _ _ _ _ _ (by omega) (by omega)).trans (hc _ _ (txt_get hx))) ((sortWorld_cell _ _ _ _ _ _ _ _ _ (by omega) (by omega)).trans (hc _ _ (txt_get hy)))
  have hH : Holds (encF (k := k)) w gn 0 d := fun j hj => by
    refine ⟨?_, frozen_of_row w _ _ _ _ hn⟩
    rw [Nat.zero_add, cell_of_row w _ _ _ _ _ hn, ik_get _ _ _ (by simp; omega)]
    unfold encF
    rw [hdg j (by omega)]
    have : (List.range l.length).getD j 0 = j := by simp [List.getD, hds ▸ hj]
    rw [this]
  have eg : ∀ args w, (callFunc 72 args).run Try.prog w = .ok (.enter 72 args) w := enters_of Try.func72 (by kernel_rfl) rfl
  have hO : SWO (ltOf fun (x y : Fin (k + 1)) => cfV l x.val y.val) := swoT (fun x => tl (txt l x.val)) _ fun x y => cfV_lt l _ _
  have hcon := Any.slices_SortFunc Try.sortL (encF (k := k)) (fun _ => rfl) (fun x y => cfV l x.val y.val) hO 72 #[.pointer (some ⟨gb, 0, none⟩)] gn 0 l.length d w eg hcmp.lays hH gz (by omega)
  change Calls Try.prog 71 _ _ _ at hcon
  rw [hds] at hcon
  refine hcon.mono ?_
  rintro e w' ⟨he, d', n, os, hp, hs, rfl⟩
  have hs' : d'.size = d.size := hp.1
  have hq : ∀ j, j < l.length → (d'.toList.map (·.val)).getD j 0 = (d'[j]!).val := fun j hj => by
    have : j < d'.size := by omega
    rw [getElem!_pos d' j this]
    simp [List.getD, this]
  have hperm : d'.toList.Perm d.toList := by
    have h3 := hp.2.2
    have e1 : d'.extract 0 l.length = d' := by rw [← hds, ← hs']; simp
    have e2 : d.extract 0 l.length = d := by rw [← hds]; simp
    rw [e1, e2] at h3
    exact h3
  refine ⟨he, d'.toList.map (·.val), ⟨?_, ?_⟩, ?_, sortWorld_below _ _ _ _ _ _ _ gz⟩
  · refine (hperm.map _).trans ?_
    have : d.toList.map (·.val) = List.range l.length := by
      rw [hd, hk]
      apply List.ext_getElem
      · simp
      · intro i h1 h2; simp
    rw [this]
  · intro i j hij hj
    rw [hq i (by omega), hq j hj]
    have := hs i j (by omega) hij hj
    unfold ltOf at this
    rw [decide_eq_false_iff_not, cfV_lt] at this
    exact this
  · have hlen : (d'.toList.map (·.val)).length = l.length := by rw [List.length_map, Array.length_toList]; omega
    refine .inr ⟨gn, 0, l.length, by rw [hlen], by omega, by unfold maxLen; omega, ?_, fun j hj => ?_⟩
    · have := (sortWorld_below (encF (k := k)) w gn 0 n d' os gz).size; omega
    · rw [hlen] at hj
      rw [hq j hj]
      unfold sortWorld
      rw [cell?_grow _ _ _ (by simpa [Sort.ahead] using gz)]
      have hH' : Holds (encF (k := k)) (Sort.ahead w n) gn 0 d := hH
      exact (holds_putRow (encF (k := k)) (Sort.ahead w n) gn 0 d d' hH' hs' j (by omega)).1
theorem sort0 (o : Option Addr) (c : Nat) (fv : Value) (w : World) : Calls Try.prog 71 #[.slice o 0 c, fv] w fun e w' => e = .returned (.tuple #[]) ∧ w' = w := by
  have h := AnyF.slices_SortFunc_none { Try.sortL with } o c fv w
  exact h
end Go.Proofs.Ytceaklefdahfkab
