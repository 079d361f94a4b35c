/- Graphs: lists of numbers, lists of lists, lists of edges, as they lie. -/
import Derived.Test.YtgedmfcfhdfoeaaRows
import Derived.Test.YtgedmfcfhdfoeaaJaA
import Derived.WalkKit
import Derived.WalkSpells
import Derived.WalkLawsBesides
import Derived.ProofKit
import Derived.Deep.QuietTactic
import Derived.BigQuiet
import Derived.Maps.AppendAt
import Derived.Deep.AppendLies
import Derived.Deep.RegionHeld3
import Derived.BigRegion
namespace Go.Proofs.Ytgedmfcfhdfoeaa
open Go.RowKit
/-- The walk does not open this. -/
def Hid (p : Prop) : Prop := p
theorem Hid.out {p : Prop} (h : Hid p) : p := h
theorem info_parts {P : Program} {e : TypeId} {z : Option Value} {s b : Nat} (h : (P.info? e).map (fun i => (i.zero, i.size, i.bytes)) = some (z, s, b)) : ∃ i, P.info? e = some i ∧ i.zero = z ∧ i.size = s ∧ i.bytes = b := by
  cases hi : P.info? e with
  | none => rw [hi] at h; cases h
  | some i => rw [hi] at h; simp at h; exact ⟨i, rfl, h.1, h.2.1, h.2.2⟩
def I64 (x : Int) : Prop := -9223372036854775808 ≤ x ∧ x < 9223372036854775808
theorem wi (x : Int) (h : I64 x) : IntKind.i64.wrap x = x := by
  unfold I64 at h
  have hb : IntKind.i64.bits = 64 := rfl
  have hs : IntKind.i64.signed = true := rfl
  unfold IntKind.wrap
  rw [hb, hs]
  by_cases h0 : 0 ≤ x
  · simp only [Bool.true_and, decide_eq_true_eq]; split <;> omega
  · simp only [Bool.true_and, decide_eq_true_eq]; split <;> omega
theorem Below.drewN' {B : Nat} {a w : World} (h : Below B a w) (n : Nat) : Below B a (w.drewN n) := ⟨h.os, h.tape, h.output, h.size, h.block⟩
theorem below_drew (W : World) : Below W.heap.size W W.drew := ⟨rfl, rfl, rfl, Nat.le_refl _, fun _ _ => rfl⟩
/-- A list of numbers, as cells. -/
def ik (l : List Nat) : Array Value := (l.map fun (b : Nat) => Value.int .i64 (b : Int)).toArray
theorem ik_size (l : List Nat) : (ik l).size = l.length := by simp [ik]
theorem ik_get (l : List Nat) (j : Nat) (h : j < l.length) : (ik l)[j]? = some (.int .i64 ((l.getD j 0 : Nat) : Int)) := by simp [ik, List.getD, h]
theorem ik_set (l : List Nat) (j b : Nat) : (ik l).setIfInBounds j (.int .i64 (b : Int)) = ik (l.set j b) := by simp [ik, List.map_set]
theorem ik_snoc (l : List Nat) (x : Nat) : (ik (l ++ [x])).toList = (ik l).toList ++ [.int .i64 (x : Int)] := by simp [ik]
theorem info3 : (Try.prog.info? 3).map (fun i => (i.zero, i.size, i.bytes)) = some (some (.int .i64 0), 1, 8) := by kernel_rfl
theorem info35 : (Try.prog.info? 32).map (fun i => (i.zero, i.size, i.bytes)) = some (some (.slice none 0 0), 1, 24) := by kernel_rfl
theorem info53 : (Try.prog.info? 52).map (fun i => (i.zero, i.size, i.bytes)) = some (some (.agg #[.int .i64 0, .int .i64 0]), 2, 16) := by kernel_rfl
theorem own_keep2 {w w' : World} {B e n s : Nat} {v : Value} {xs : List Value} (h : w.ownsRow B e s v n xs) (hb : ∀ k, v.ownBlock = some k → w'.heap[k]? = w.heap[k]?) : w'.ownsRow B e s v n xs := by
  obtain ⟨h0, h1 | ⟨g, cap, cur, rfl, h2, h3, h4⟩⟩ := h
  · exact ⟨h0, .inl h1⟩
  · exact ⟨h0, .inr ⟨g, cap, cur, rfl, h2, (hb g rfl).trans h3, h4⟩⟩
theorem own_size {w : World} {B e n s : Nat} {v : Value} {xs : List Value} (h : w.ownsRow B e s v n xs) : ∃ o c, v = .slice o n c := by
  obtain ⟨_, ⟨rfl, rfl⟩ | ⟨_, _, _, rfl, _⟩⟩ := h <;> exact ⟨_, _, rfl⟩
theorem grown_oldR {w w' : World} {cs : Array Value} {e : Nat} {v : Value} (hg : (w.alloc (.cells cs e)).grownBy w' v.ownBlock) (k : Nat) (hk : k < w.heap.size) (hn : ¬ v.ownBlock = some k) : w'.heap[k]? = w.heap[k]? := by
  rw [hg.block k (by simp; omega) (fun e => hn e.symm), heap_alloc_old _ _ (h := hk)]
/-- One number appended. -/
def apI (ty : Nat) (vs : Array Value) : Sem Value := Builtin.append_ #[32, 32] ty vs
theorem toApI (ty : Nat) (vs : Array Value) : Builtin.append_ #[32, 32] ty vs = apI ty vs := rfl
theorem run_apI (w : World) (base n ty : Nat) (v : Value) (l : List Nat) (x : Nat) (hown : w.ownsRow base 3 1 v n (ik l).toList) (hb : n + 1 ≤ 1099511627776) (hbase : base ≤ w.heap.size) :
    ∃ v' w', (apI ty #[v, .slice (some ⟨w.heap.size, 0, none⟩) 1 1]).run Try.prog (w.alloc (.cells #[.int .i64 (x : Int)] 3)) = .ok v' w' ∧ w'.ownsRow base 3 1 v' (n + 1) (ik (l ++ [x])).toList ∧ (w.alloc (.cells #[.int .i64 (x : Int)] 3)).grownBy w' v.ownBlock ∧ (v'.ownBlock = v.ownBlock ∨ v'.ownBlock = some (w.heap.size + 1)) := by
  obtain ⟨i0, hi0, hz0, hz1, hz2⟩ := info_parts info3
  obtain ⟨v', w', hr, ho, hg, _, hat⟩ := run_append_own_at (P := Try.prog) (w.alloc (.cells #[.int .i64 (x : Int)] 3)) base 32 ty 3 i0 _ 1 8 Try.underlying32 hi0 hz0 hz1 hz2 rfl (by omega) v n _ (hown.alloc _) ⟨w.heap.size, 0, none⟩ 1 1 [.int .i64 (x : Int)] rfl
    (World.news_of_block (cs := #[.int .i64 (x : Int)]) (t := 3) (fr := (0, 0)) (heap_alloc_new w _)) (fun u hu => by simp at hu; subst hu; rfl) (by unfold maxLen; omega) (by omega) (by simp; omega)
  refine ⟨v', w', hr, ?_, hg, ?_⟩
  · rw [ik_snoc]; exact ho
  · rcases hat with hat | hat
    · exact .inl hat
    · exact .inr (by rw [hat]; simp)
/-- Another value at one place. -/
def upd {α : Type} (f : Nat → α) (j : Nat) (x : α) : Nat → α := fun i => if i = j then x else f i
theorem upd_same {α : Type} (f : Nat → α) (j : Nat) (x : α) : upd f j x j = x := if_pos rfl
theorem upd_other {α : Type} (f : Nat → α) (j : Nat) (x : α) (i : Nat) (h : i ≠ j) : upd f j x i = f i := if_neg h
/-- A list of lists of numbers, as it lies: each list with memory of its own. -/
structure Rws (g N : Nat) (F : Nat → List Nat) (V : Nat → Value) (w : World) : Prop where
  row : ∃ cur : Array Value, w.heap[g]? = some (.cells cur 32 (0, 0)) ∧ cur.size = N ∧ ∀ j, j < N → cur[j]? = some (V j)
  own : ∀ j, j < N → w.ownsRow (g + 1) 3 1 (V j) (F j).length (ik (F j)).toList
  apart : ∀ i j, i < N → j < N → i ≠ j → ∀ k, (V i).ownBlock = some k → ¬ (V j).ownBlock = some k
theorem Rws.lt {g N : Nat} {F : Nat → List Nat} {V : Nat → Value} {w : World} (h : Rws g N F V w) : g < w.heap.size := by
  obtain ⟨cur, h1, _⟩ := h.row
  exact (Array.getElem?_eq_some_iff.1 h1).1
theorem Rws.keep {g N : Nat} {F : Nat → List Nat} {V : Nat → Value} {w w' : World} (h : Rws g N F V w) (hb : ∀ k, g ≤ k → k < w.heap.size → w'.heap[k]? = w.heap[k]?) : Rws g N F V w' := by
  obtain ⟨cur, h1, h2, h3⟩ := h.row
  refine ⟨⟨cur, (hb g (Nat.le_refl _) h.lt).trans h1, h2, h3⟩, fun j hj => own_keep2 (h.own j hj) fun k hk => ?_, h.apart⟩
  have := (h.own j hj).lt k hk
  exact hb k (by omega) this.2
theorem Rws.below {g N : Nat} {F : Nat → List Nat} {V : Nat → Value} {w w' : World} (h : Rws g N F V w) (hb : Below w.heap.size w w') : Rws g N F V w' := h.keep fun k _ hk => hb.block k hk
theorem Rws.congr {g N : Nat} {F G : Nat → List Nat} {V : Nat → Value} {w : World} (h : Rws g N F V w) (hf : ∀ j, j < N → F j = G j) : Rws g N G V w :=
  ⟨h.row, fun j hj => by rw [← hf j hj]; exact h.own j hj, h.apart⟩
theorem Rws.cell {g N : Nat} {F : Nat → List Nat} {V : Nat → Value} {w : World} (h : Rws g N F V w) (j : Nat) (hj : j < N) : w.cell? ⟨g, j, none⟩ = some (V j) ∧ w.frozen? ⟨g, j, none⟩ = false := by
  obtain ⟨cur, h1, _, h3⟩ := h.row
  exact ⟨(cell_of_row w g j _ _ _ h1).trans (h3 j hj), frozen_of_row w _ _ _ _ h1⟩
/-- A list that is owned, read. -/
theorem own_get {w : World} {B n : Nat} {v : Value} {l : List Nat} (h : w.ownsRow B 3 1 v n (ik l).toList) : n = l.length ∧ ∃ o c, v = .slice o l.length c ∧ (0 < l.length → ∃ b, o = some ⟨b, 0, none⟩ ∧ b < w.heap.size ∧ B ≤ b ∧ ∀ j, j < l.length → w.cell? ⟨b, j, none⟩ = some (.int .i64 ((l.getD j 0 : Nat) : Int))) := by
  obtain ⟨h0, h1⟩ := h
  have hn : n = l.length := by simpa [ik] using h0.symm
  subst hn
  refine ⟨rfl, ?_⟩
  rcases h1 with ⟨rfl, h1⟩ | ⟨g, cap, cur, rfl, hB, hg, hnc, hcm, hcs, htk⟩
  · exact ⟨none, 0, by rw [h1], fun h => by omega⟩
  · refine ⟨_, cap, rfl, fun _ => ⟨g, rfl, (Array.getElem?_eq_some_iff.1 hg).1, hB, fun j hj => ?_⟩⟩
    have h1 : cur.toList[j]? = (ik l).toList[j]? := by rw [← htk, List.getElem?_take, if_pos (by omega)]
    rw [cell_of_row w _ _ _ _ _ hg, ← Array.getElem?_toList, h1, Array.getElem?_toList, ik_get _ _ hj]
/-- A number is appended to one list. -/
theorem Rws.add2 {g N : Nat} {F : Nat → List Nat} {V : Nat → Value} {w : World} (h : Rws g N F V w) (j x : Nat) (hj : j < N) (hb : (F j).length + 1 ≤ 1099511627776) :
    ∃ v' w', (apI 32 #[V j, .slice (some ⟨w.heap.size, 0, none⟩) 1 1]).run Try.prog (w.alloc (.cells #[.int .i64 (x : Int)] 3)) = .ok v' w' ∧ w'.cell? ⟨g, j, none⟩ = some (V j) ∧ w'.frozen? ⟨g, j, none⟩ = false ∧ Rws g N (upd F j (F j ++ [x])) (upd V j v') (w'.setCell ⟨g, j, none⟩ v') ∧ (∀ B, B ≤ g → Below B w (w'.setCell ⟨g, j, none⟩ v')) ∧ (∀ q, q < w.heap.size → ¬ (V j).ownBlock = some q → w'.heap[q]? = w.heap[q]?) := by
  have hlt := h.lt
  obtain ⟨v', w', hr, ho, hg, hat⟩ := run_apI w (g + 1) (F j).length 32 (V j) (F j) x (h.own j hj) hb hlt
  obtain ⟨cur, c1, c2, c3⟩ := h.row
  have rg : w'.heap[g]? = some (.cells cur 32 (0, 0)) := (grown_oldR hg g hlt (fun e => by have := ((h.own j hj).lt g e).1; omega)).trans c1
  have z : w.heap.size ≤ w'.heap.size := by have := hg.size; simp at this; omega
  have hne : ∀ k, k ≠ g → (w'.setCell ⟨g, j, none⟩ v').heap[k]? = w'.heap[k]? := fun k hk => heap_setCell_other _ _ _ _ hk
  have nv : ∀ k, k < w.heap.size → ¬ (V j).ownBlock = some k → ¬ v'.ownBlock = some k := fun k hk hn e => by
    rcases hat with h1 | h1
    · exact hn (h1.symm.trans e)
    · rw [h1] at e; have := Option.some.inj e; omega
  refine ⟨v', w', hr, (cell_of_row w' g j _ _ _ rg).trans (c3 j hj), frozen_of_row w' _ _ _ _ rg, ⟨⟨cur.setIfInBounds j v', heap_setCell_same _ _ _ _ _ _ rg, by simpa using c2, fun i hi => ?_⟩, fun i hi => ?_, fun a b ha hb' hab k hk => ?_⟩, fun B hB => ⟨hg.os, hg.tape, hg.output, by simpa [World.setCell] using z, fun i hi => (hne i (by omega)).trans (grown_oldR hg i (by omega) (fun e => by have := ((h.own j hj).lt i e).1; omega))⟩, fun q hq hn => grown_oldR hg q hq hn⟩
  · by_cases hij : i = j
    · subst hij
      rw [upd_same, Array.getElem?_setIfInBounds_self_of_lt (by omega)]
    · rw [upd_other _ _ _ _ hij, Array.getElem?_setIfInBounds_ne (fun e => hij e.symm)]
      exact c3 i hi
  · by_cases hij : i = j
    · subst hij
      rw [upd_same, upd_same, List.length_append, List.length_singleton]
      exact own_keep2 ho fun k hk => hne k (by have := (ho.lt k hk).1; omega)
    · rw [upd_other _ _ _ _ hij, upd_other _ _ _ _ hij]
      refine own_keep2 (h.own i hi) fun k hk => ?_
      have l := (h.own i hi).lt k hk
      exact (hne k (by omega)).trans (grown_oldR hg k l.2 (fun e => h.apart i j hi hj hij k hk e))
  · by_cases h1 : a = j
    · subst h1
      rw [upd_same] at hk
      rw [upd_other _ _ _ _ (fun e => hab e.symm)]
      intro hk2
      have l := (h.own b hb').lt k hk2
      exact nv k l.2 (fun e => h.apart b a hb' ha (fun e => hab e.symm) k hk2 e) hk
    · rw [upd_other _ _ _ _ h1] at hk
      by_cases h2 : b = j
      · subst h2
        rw [upd_same]
        have l := (h.own a ha).lt k hk
        exact nv k l.2 (fun e => h.apart a b ha hb' hab k hk e)
      · rw [upd_other _ _ _ _ h2]
        exact h.apart a b ha hb' hab k hk
theorem Rws.add {g N : Nat} {F : Nat → List Nat} {V : Nat → Value} {w : World} (h : Rws g N F V w) (j x : Nat) (hj : j < N) (hb : (F j).length + 1 ≤ 1099511627776) :
    ∃ v' w', (apI 32 #[V j, .slice (some ⟨w.heap.size, 0, none⟩) 1 1]).run Try.prog (w.alloc (.cells #[.int .i64 (x : Int)] 3)) = .ok v' w' ∧ w'.cell? ⟨g, j, none⟩ = some (V j) ∧ w'.frozen? ⟨g, j, none⟩ = false ∧ Rws g N (upd F j (F j ++ [x])) (upd V j v') (w'.setCell ⟨g, j, none⟩ v') ∧ (∀ B, B ≤ g → Below B w (w'.setCell ⟨g, j, none⟩ v')) := by
  obtain ⟨v', w', h1, h2, h3, h4, h5, -⟩ := h.add2 j x hj hb
  exact ⟨v', w', h1, h2, h3, h4, h5⟩
end Go.Proofs.Ytgedmfcfhdfoeaa
