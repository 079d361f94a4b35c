/- The sieve's table: its states laid down. -/
import Derived.Test.YtceaklefdahfkabSv5
namespace Go.Proofs.Ytceaklefdahfkab
open Go.RowKit
theorem info5 : (Try.prog.info? 5).map (fun i => (i.zero, i.size, i.bytes)) = some (some (.int .u8 0), 1, 1) := by kernel_rfl
theorem info21 : (Try.prog.info? 21).map (fun i => (i.zero, i.size, i.bytes)) = some (some (.int .i32 0), 1, 4) := by kernel_rfl
def apU (ty : Nat) (vs : Array Value) : Sem Value := Builtin.append_ #[23, 23] ty vs
theorem toApU (ty : Nat) (vs : Array Value) : Builtin.append_ #[23, 23] ty vs = apU ty vs := rfl
def apF (ty : Nat) (vs : Array Value) : Sem Value := Builtin.append_ #[97, 97] ty vs
theorem toApF (ty : Nat) (vs : Array Value) : Builtin.append_ #[97, 97] ty vs = apF ty vs := rfl
theorem ik_snoc (k : IntKind) (l : List Nat) (x : Nat) : (ik k (l ++ [x])).toList = (ik k l).toList ++ [.int k (x : Int)] := by simp [ik]
/-- One number appended. -/
theorem run_ap1 {T e : Nat} {k : IntKind} {by' : Nat} (hi : (Try.prog.info? e).map (fun i => (i.zero, i.size, i.bytes)) = some (some (.int k 0), 1, by')) (hby : by' ≤ 8) (hu : Try.prog.underlying T = some (.slice e)) (w : World) (base n ty : Nat) (v : Value) (l : List Nat) (x : Nat) (hown : w.ownsRow base e 1 v n (ik k l).toList) (hb : n + 1 ≤ 1099511627776) (hbase : base ≤ w.heap.size) :
    ∃ v' w', (Builtin.append_ #[T, T] ty #[v, .slice (some ⟨w.heap.size, 0, none⟩) 1 1]).run Try.prog (w.alloc (.cells #[.int k (x : Int)] e)) = .ok v' w' ∧ w'.ownsRow base e 1 v' (n + 1) (ik k (l ++ [x])).toList ∧ (w.alloc (.cells #[.int k (x : Int)] e)).grownBy w' v.ownBlock ∧ (v'.ownBlock = v.ownBlock ∨ v'.ownBlock = some (w.heap.size + 1)) := by
  obtain ⟨i0, hi0, hz0, hz1, hz2⟩ := info_parts hi
  obtain ⟨v', w', hr, ho, hg, _, hat⟩ := run_append_own_at (P := Try.prog) (w.alloc (.cells #[.int k (x : Int)] e)) base T ty e i0 _ 1 by' hu hi0 hz0 hz1 hz2 rfl (by omega) v n _ (hown.alloc _) ⟨w.heap.size, 0, none⟩ 1 1 [.int k (x : Int)] rfl
    (World.news_of_block (cs := #[.int k (x : Int)]) (t := e) (fr := (0, 0)) (heap_alloc_new w _)) (fun u hu => by simp at hu; subst hu; rfl) (by unfold maxLen; omega) (Nat.le_trans (Nat.mul_le_mul_left _ hby) (by omega)) (by simp; omega)
  refine ⟨v', w', hr, ?_, hg, ?_⟩
  · rw [ik_snoc]; exact ho
  · rcases hat with hat | hat
    · exact .inl hat
    · exact .inr (by rw [hat]; simp)
/-- The table in the making. -/
structure Ly (g sb : Nat) (sr : Array Value) (a b f w0 r4 r5 r6 : Value) (A D F : List Nat) (w : World) : Prop where
  row : w.heap[g]? = some (.cells #[w0, a, b, f, r4, r5, r6] 100 (0, 0))
  oa : w.ownsRow (g + 1) 5 1 a A.length (ik .u8 A).toList
  ob : w.ownsRow (g + 1) 5 1 b D.length (ik .u8 D).toList
  of : w.ownsRow (g + 1) 21 1 f F.length (ik .i32 F).toList
  ab : ∀ k, a.ownBlock = some k → ¬ b.ownBlock = some k
  af : ∀ k, a.ownBlock = some k → ¬ f.ownBlock = some k
  bf : ∀ k, b.ownBlock = some k → ¬ f.ownBlock = some k
  sh : w.heap[sb]? = some (.cells sr 3 (0, 0))
  sg : g < sb
  sa : ¬ a.ownBlock = some sb
  sbb : ¬ b.ownBlock = some sb
  sf : ¬ f.ownBlock = some sb
theorem Ly.drew {g sb : Nat} {sr : Array Value} {a b f w0 r4 r5 r6 : Value} {A D F : List Nat} {w w' : World} (h : Ly g sb sr a b f w0 r4 r5 r6 A D F w) (hh : w'.heap = w.heap) : Ly g sb sr a b f w0 r4 r5 r6 A D F w' :=
  ⟨by rw [hh]; exact h.row, own_keep2 h.oa fun k _ => by rw [hh], own_keep2 h.ob fun k _ => by rw [hh], own_keep2 h.of fun k _ => by rw [hh], h.ab, h.af, h.bf, by rw [hh]; exact h.sh, h.sg, h.sa, h.sbb, h.sf⟩
theorem Ly.gz {g sb : Nat} {sr : Array Value} {a b f w0 r4 r5 r6 : Value} {A D F : List Nat} {w : World} (h : Ly g sb sr a b f w0 r4 r5 r6 A D F w) : g + 1 ≤ w.heap.size := (Array.getElem?_eq_some_iff.1 h.row).1
theorem Ly.cell {g sb : Nat} {sr : Array Value} {a b f w0 r4 r5 r6 : Value} {A D F : List Nat} {w : World} (h : Ly g sb sr a b f w0 r4 r5 r6 A D F w) : w.cell? ⟨g, 0, none⟩ = some w0 ∧ w.cell? ⟨g, 1, none⟩ = some a ∧ w.cell? ⟨g, 2, none⟩ = some b ∧ w.cell? ⟨g, 3, none⟩ = some f :=
  ⟨(cell_of_row w g 0 _ _ _ h.row).trans rfl, (cell_of_row w g 1 _ _ _ h.row).trans rfl, (cell_of_row w g 2 _ _ _ h.row).trans rfl, (cell_of_row w g 3 _ _ _ h.row).trans rfl⟩
/-- What is left where a row is gone on with. -/
theorem grown_old {w w' : World} {x : Value} {e : Nat} {v : Value} (hg : (w.alloc (.cells #[x] e)).grownBy w' v.ownBlock) (k : Nat) (hk : k < w.heap.size) (hn : ¬ v.ownBlock = some k) : w'.heap[k]? = w.heap[k]? := by
  rw [hg.block k (by simp; omega) (fun e => hn e.symm), heap_alloc_old _ _ (h := hk)]
theorem Ly.addA {g sb : Nat} {sr : Array Value} {a b f w0 r4 r5 r6 : Value} {A D F : List Nat} {w : World} (h : Ly g sb sr a b f w0 r4 r5 r6 A D F w) (x : Nat) (hb : A.length + 1 ≤ 1099511627776) :
    ∃ v' w', (apU 23 #[a, .slice (some ⟨w.heap.size, 0, none⟩) 1 1]).run Try.prog (w.alloc (.cells #[.int .u8 (x : Int)] 5)) = .ok v' w' ∧ w'.cell? ⟨g, 1, none⟩ = some a ∧ w'.frozen? ⟨g, 1, none⟩ = false ∧ Ly g sb sr v' b f w0 r4 r5 r6 (A ++ [x]) D F (w'.setCell ⟨g, 1, none⟩ v') ∧ (∀ B, B ≤ g → Below B w (w'.setCell ⟨g, 1, none⟩ v')) := by
  obtain ⟨v', w', hr, ho, hg, hat⟩ := run_ap1 (T := 23) info5 (by omega) (by kernel_rfl) w (g + 1) A.length 23 a A x h.oa hb h.gz
  have gz := h.gz
  have sbz : sb < w.heap.size := (Array.getElem?_eq_some_iff.1 h.sh).1
  have rg : w'.heap[g]? = some (.cells #[w0, a, b, f, r4, r5, r6] 100 (0, 0)) := (grown_old hg g (by omega) (fun e => by have := (h.oa.lt g e).1; omega)).trans h.row
  have z : w.heap.size ≤ w'.heap.size := by have := hg.size; simp at this; omega
  have lt1 := fun k hk => h.ob.lt k hk
  have lt2 := fun k hk => h.of.lt k hk
  have hne : ∀ k, k ≠ g → (w'.setCell ⟨g, 1, none⟩ v').heap[k]? = w'.heap[k]? := fun k hk => heap_setCell_other _ _ _ _ hk
  have nv : ∀ k, k < w.heap.size → ¬ a.ownBlock = some k → ¬ v'.ownBlock = some k := fun k hk hn e => by
    rcases hat with h1 | h1
    · exact hn (h1.symm.trans e)
    · rw [h1] at e; have := Option.some.inj e; omega
  exact ⟨v', w', hr, (cell_of_row w' g 1 _ _ _ rg).trans rfl, frozen_of_row w' _ _ _ _ rg, ⟨(heap_setCell_same _ _ _ _ _ _ rg).trans rfl, (by rw [List.length_append, List.length_singleton]; exact own_keep2 ho fun k hk => hne k (by have := (ho.lt k hk).1; omega)), (own_keep2 h.ob fun k hk => (hne k (by have := (lt1 k hk).1; omega)).trans (grown_old hg k (lt1 k hk).2 (fun e => h.ab k e hk))), (own_keep2 h.of fun k hk => (hne k (by have := (lt2 k hk).1; omega)).trans (grown_old hg k (lt2 k hk).2 (fun e => h.af k e hk))), fun k hk e => nv k (lt1 k e).2 (fun e2 => h.ab k e2 e) hk, fun k hk e => nv k (lt2 k e).2 (fun e2 => h.af k e2 e) hk, h.bf, (hne sb (by have := h.sg; omega)).trans ((grown_old hg sb sbz h.sa).trans h.sh), h.sg, (nv sb sbz h.sa), h.sbb, h.sf⟩,
    fun B hB => ⟨hg.os, hg.tape, hg.output, by simpa [World.setCell] using z, fun j hj => (hne j (by omega)).trans (grown_old hg j (by omega) (fun e => by have := (h.oa.lt j e).1; omega))⟩⟩
theorem Ly.addD {g sb : Nat} {sr : Array Value} {a b f w0 r4 r5 r6 : Value} {A D F : List Nat} {w : World} (h : Ly g sb sr a b f w0 r4 r5 r6 A D F w) (x : Nat) (hb : D.length + 1 ≤ 1099511627776) :
    ∃ v' w', (apU 23 #[b, .slice (some ⟨w.heap.size, 0, none⟩) 1 1]).run Try.prog (w.alloc (.cells #[.int .u8 (x : Int)] 5)) = .ok v' w' ∧ w'.cell? ⟨g, 2, none⟩ = some b ∧ w'.frozen? ⟨g, 2, none⟩ = false ∧ Ly g sb sr a v' f w0 r4 r5 r6 A (D ++ [x]) F (w'.setCell ⟨g, 2, none⟩ v') ∧ (∀ B, B ≤ g → Below B w (w'.setCell ⟨g, 2, none⟩ v')) := by
  obtain ⟨v', w', hr, ho, hg, hat⟩ := run_ap1 (T := 23) info5 (by omega) (by kernel_rfl) w (g + 1) D.length 23 b D x h.ob hb h.gz
  have gz := h.gz
  have sbz : sb < w.heap.size := (Array.getElem?_eq_some_iff.1 h.sh).1
  have rg : w'.heap[g]? = some (.cells #[w0, a, b, f, r4, r5, r6] 100 (0, 0)) := (grown_old hg g (by omega) (fun e => by have := (h.ob.lt g e).1; omega)).trans h.row
  have z : w.heap.size ≤ w'.heap.size := by have := hg.size; simp at this; omega
  have lt1 := fun k hk => h.oa.lt k hk
  have lt2 := fun k hk => h.of.lt k hk
  have hne : ∀ k, k ≠ g → (w'.setCell ⟨g, 2, none⟩ v').heap[k]? = w'.heap[k]? := fun k hk => heap_setCell_other _ _ _ _ hk
  have nv : ∀ k, k < w.heap.size → ¬ b.ownBlock = some k → ¬ v'.ownBlock = some k := fun k hk hn e => by
    rcases hat with h1 | h1
    · exact hn (h1.symm.trans e)
    · rw [h1] at e; have := Option.some.inj e; omega
  exact ⟨v', w', hr, (cell_of_row w' g 2 _ _ _ rg).trans rfl, frozen_of_row w' _ _ _ _ rg, ⟨(heap_setCell_same _ _ _ _ _ _ rg).trans rfl, (own_keep2 h.oa fun k hk => (hne k (by have := (lt1 k hk).1; omega)).trans (grown_old hg k (lt1 k hk).2 (h.ab k hk))), (by rw [List.length_append, List.length_singleton]; exact own_keep2 ho fun k hk => hne k (by have := (ho.lt k hk).1; omega)), (own_keep2 h.of fun k hk => (hne k (by have := (lt2 k hk).1; omega)).trans (grown_old hg k (lt2 k hk).2 (fun e => h.bf k e hk))), fun k hk => nv k (lt1 k hk).2 (h.ab k hk), h.af, fun k hk e => nv k (lt2 k e).2 (fun e2 => h.bf k e2 e) hk, (hne sb (by have := h.sg; omega)).trans ((grown_old hg sb sbz h.sbb).trans h.sh), h.sg, h.sa, (nv sb sbz h.sbb), h.sf⟩,
    fun B hB => ⟨hg.os, hg.tape, hg.output, by simpa [World.setCell] using z, fun j hj => (hne j (by omega)).trans (grown_old hg j (by omega) (fun e => by have := (h.ob.lt j e).1; omega))⟩⟩
theorem Ly.addF {g sb : Nat} {sr : Array Value} {a b f w0 r4 r5 r6 : Value} {A D F : List Nat} {w : World} (h : Ly g sb sr a b f w0 r4 r5 r6 A D F w) (x : Nat) (hb : F.length + 1 ≤ 1099511627776) :
    ∃ v' w', (apF 97 #[f, .slice (some ⟨w.heap.size, 0, none⟩) 1 1]).run Try.prog (w.alloc (.cells #[.int .i32 (x : Int)] 21)) = .ok v' w' ∧ w'.cell? ⟨g, 3, none⟩ = some f ∧ w'.frozen? ⟨g, 3, none⟩ = false ∧ Ly g sb sr a b v' w0 r4 r5 r6 A D (F ++ [x]) (w'.setCell ⟨g, 3, none⟩ v') ∧ (∀ B, B ≤ g → Below B w (w'.setCell ⟨g, 3, none⟩ v')) := by
  obtain ⟨v', w', hr, ho, hg, hat⟩ := run_ap1 (T := 97) info21 (by omega) (by kernel_rfl) w (g + 1) F.length 97 f F x h.of hb h.gz
  have gz := h.gz
  have sbz : sb < w.heap.size := (Array.getElem?_eq_some_iff.1 h.sh).1
  have rg : w'.heap[g]? = some (.cells #[w0, a, b, f, r4, r5, r6] 100 (0, 0)) := (grown_old hg g (by omega) (fun e => by have := (h.of.lt g e).1; omega)).trans h.row
  have z : w.heap.size ≤ w'.heap.size := by have := hg.size; simp at this; omega
  have lt1 := fun k hk => h.oa.lt k hk
  have lt2 := fun k hk => h.ob.lt k hk
  have hne : ∀ k, k ≠ g → (w'.setCell ⟨g, 3, none⟩ v').heap[k]? = w'.heap[k]? := fun k hk => heap_setCell_other _ _ _ _ hk
  have nv : ∀ k, k < w.heap.size → ¬ f.ownBlock = some k → ¬ v'.ownBlock = some k := fun k hk hn e => by
    rcases hat with h1 | h1
    · exact hn (h1.symm.trans e)
    · rw [h1] at e; have := Option.some.inj e; omega
  exact ⟨v', w', hr, (cell_of_row w' g 3 _ _ _ rg).trans rfl, frozen_of_row w' _ _ _ _ rg, ⟨(heap_setCell_same _ _ _ _ _ _ rg).trans rfl, (own_keep2 h.oa fun k hk => (hne k (by have := (lt1 k hk).1; omega)).trans (grown_old hg k (lt1 k hk).2 (h.af k hk))), (own_keep2 h.ob fun k hk => (hne k (by have := (lt2 k hk).1; omega)).trans (grown_old hg k (lt2 k hk).2 (h.bf k hk))), (by rw [List.length_append, List.length_singleton]; exact own_keep2 ho fun k hk => hne k (by have := (ho.lt k hk).1; omega)), h.ab, fun k hk => nv k (lt1 k hk).2 (h.af k hk), fun k hk => nv k (lt2 k hk).2 (h.bf k hk), (hne sb (by have := h.sg; omega)).trans ((grown_old hg sb sbz h.sf).trans h.sh), h.sg, h.sa, h.sbb, (nv sb sbz h.sf)⟩,
    fun B hB => ⟨hg.os, hg.tape, hg.output, by simpa [World.setCell] using z, fun j hj => (hne j (by omega)).trans (grown_old hg j (by omega) (fun e => by have := (h.of.lt j e).1; omega))⟩⟩
end Go.Proofs.Ytceaklefdahfkab
