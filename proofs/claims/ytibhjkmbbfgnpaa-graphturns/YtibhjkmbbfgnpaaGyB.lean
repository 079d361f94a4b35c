/- Graphs searched: a map from numbers to numbers; a queue as it lies. -/
import Derived.Test.YtibhjkmbbfgnpaaGxB
import Derived.Test.YtibhjkmbbfgnpaaJoA
import Derived.Deep.AppendSrc
import Derived.Maps.OwnSet
import Derived.Maps.Views
import Derived.Carry
namespace Go.Proofs.Ytibhjkmbbfgnpaa
open Go.RowKit GM
set_option maxRecDepth 20000
theorem zero3 (w : World) : (zeroValue 3).run Try.prog w = .ok (.int .i64 0) w := by
  have h : (Try.prog.info? 3).map (fun i => i.zero) = some (some (.int .i64 0)) := by kernel_rfl
  cases hq : Try.prog.info? 3 with
  | none => simp [hq] at h
  | some i =>
    rw [hq] at h
    simp only [Option.map_some, Option.some.injEq] at h
    simp [zeroValue, typeInfo, hq, h]
/-- A map from numbers to numbers. -/
def Mb (w : World) (b n : Nat) (f : Nat → Option Nat) : Prop :=
  ∃ D : DataW Unit, w.ownsMap Try.prog 3 (plainElem Try.prog 3) b n D ∧ Maps.IsMap D ∧ ∀ v : Nat, v < 4611686018427387904 → Maps.has D (kI v) = (f v).isSome ∧ ∀ i, f v = some i → D.atKey (kI v) (.lit (.int .i64 0)) = .lit (.int .i64 (i : Int))
theorem mb_made (w : World) : Mb (w.alloc (.map #[] 0)) w.heap.size 0 (fun _ => none) := ⟨_, World.ownsMap_made w _ _ _, Maps.isMap_empty, fun s _ => ⟨rfl, fun i h => by cases h⟩⟩
theorem Mb.lt {w : World} {b n : Nat} {f : Nat → Option Nat} (h : Mb w b n f) : b < w.heap.size := by
  obtain ⟨D, h, -⟩ := h
  exact h.lt
theorem Mb.keep {w w' : World} {b n : Nat} {f : Nat → Option Nat} (h : Mb w b n f) (hb : w'.heap[b]? = w.heap[b]?) : Mb w' b n f := by
  obtain ⟨D, ⟨es, clock, h1, h2⟩, h3⟩ := h
  exact ⟨D, ⟨es, clock, hb.trans h1, h2⟩, h3⟩
theorem Mb.row {w : World} {b n : Nat} {f : Nat → Option Nat} (h : Mb w b n f) {g : Nat} {C : Array Value} {t : Nat} (hg : w.heap[g]? = some (.cells C t (0, 0))) : b ≠ g := by
  obtain ⟨D, ⟨es, clock, h1, h2⟩, h3⟩ := h
  intro e
  subst e
  have := h1.symm.trans hg
  cases this
def lkS (m k : Value) (c : Bool) : Sem Value := Instr.lookup 93 m k c
theorem toLkS (m k : Value) (c : Bool) : Instr.lookup 93 m k c = lkS m k c := rfl
def mpS (m k v : Value) : Sem Unit := Instr.mapUpdate 93 m k v
theorem toMpS (m k v : Value) : Instr.mapUpdate 93 m k v = mpS m k v := rfl
theorem Mb.look {w : World} {b n : Nat} {f : Nat → Option Nat} (h : Mb w b n f) (v : Nat) (hv : v < 4611686018427387904) : ∃ c : Int, (lkS (.map (some b)) (.int .i64 (v : Int)) true).run Try.prog w = .ok (.tuple #[.int .i64 c, .bool (f v).isSome]) w := by
  obtain ⟨D, h1, h2, h3⟩ := h
  obtain ⟨u, ps, hrun, hv'⟩ := h1.look_ok keyI Try.underlying93 (zero3 w) (plainElem_int Try.underlying3 (by decide)) (kI_key hv)
  obtain ⟨c, rfl, hc, hwc⟩ := plainElem_int_inv Try.underlying3 hv'
  rw [(h3 v hv).1] at hrun
  exact ⟨c, hrun⟩
theorem Mb.get {w : World} {b n : Nat} {f : Nat → Option Nat} (h : Mb w b n f) (v : Nat) (hv : v < 4611686018427387904) {p : Nat} (hp : f v = some p) : (lkS (.map (some b)) (.int .i64 (v : Int)) false).run Try.prog w = .ok (.int .i64 (p : Int)) w := by
  obtain ⟨D, h1, h2, h3⟩ := h
  obtain ⟨c, hrun, hc, -⟩ := h1.lookup_int keyI Try.underlying93 Try.underlying3 (zero3 w) (kI_key hv)
  have := (h3 v hv).2 p hp
  rw [this] at hc
  simp only [DataW.lit.injEq, Lit.int.injEq, true_and] at hc
  rw [hc]
  exact hrun
theorem Mb.put {w : World} {b n : Nat} {f : Nat → Option Nat} (h : Mb w b n f) (v : Nat) (hv : v < 4611686018427387904) (i : Nat) (hi : i ≤ 10000000) (hn : n ≤ 10000000) : ∃ w', (mpS (.map (some b)) (.int .i64 (v : Int)) (.int .i64 (i : Int))).run Try.prog w = .ok () w' ∧ Mb w' b (n + 1) (fun t => if t = v then some i else f t) ∧ w.grownBy w' (some b) := by
  obtain ⟨D, h1, h2, h3⟩ := h
  have hw : (Lit.int .i64 (i : Int)).wf = true := by
    have h3 : IntKind.i64.min = -9223372036854775808 := by decide
    have h4 : IntKind.i64.max = 9223372036854775807 := by decide
    simp [Lit.wf, h3, h4]
    omega
  obtain ⟨w', q1, q2, q3⟩ := h1.update keyI Try.underlying93 (by unfold maxLen; omega) (kI_key hv) (plainElem_int (H := Unit) Try.underlying3 hw)
  refine ⟨w', q1, ⟨_, q2, h2.put _ _, fun t ht => ?_⟩, q3⟩
  have hk : WideAt.IsKeyLit (kI v) := keyI.key (kI_key hv)
  by_cases e : t = v
  · subst e
    refine ⟨by simp [Maps.has_put_same h2 hk], fun j hj => ?_⟩
    simp at hj
    subst hj
    exact Maps.atKey_put_same h2 hk _ _
  · have hne : kI t ≠ kI v := fun q => e (kI_inj q)
    simp only [if_neg e]
    rw [Maps.has_put_other hne]
    refine ⟨(h3 t ht).1, fun j hj => ?_⟩
    rw [Maps.atKey_put_other hne]
    exact (h3 t ht).2 j hj
theorem grown_frm {w w' : World} {b : Nat} (h : w.grownBy w' (some b)) : Rm.Frm (fun k => k = b) w w' := ⟨h.os, h.tape, h.output, h.size, fun k hk hx => h.block k hk (fun e => hx (Option.some.inj e))⟩
/-- A queue: a slice of numbers in a block of its own, from some place on. -/
def Qu (B : Nat) (v : Value) (l : List Nat) (w : World) : Prop := ∃ o c, v = .slice o l.length c ∧ (0 < l.length → ∃ g off cur, o = some ⟨g, off, none⟩ ∧ B ≤ g ∧ w.heap[g]? = some (.cells cur 3 (0, 0)) ∧ off + c ≤ cur.size ∧ l.length ≤ c ∧ ∀ j, j < l.length → cur[off + j]? = some (.int .i64 ((l.getD j 0 : Nat) : Int)))
theorem Qu.keep {B : Nat} {v : Value} {l : List Nat} {w w' : World} (h : Qu B v l w) (hb : ∀ k C, B ≤ k → w.heap[k]? = some (.cells C 3 (0, 0)) → w'.heap[k]? = w.heap[k]?) : Qu B v l w' := by
  obtain ⟨o, c, rfl, h1⟩ := h
  refine ⟨o, c, rfl, fun hp => ?_⟩
  obtain ⟨g, off, cur, e, q1, q2, q3⟩ := h1 hp
  exact ⟨g, off, cur, e, q1, (hb g cur q1 q2).trans q2, q3⟩
/-- Its head. -/
theorem Qu.head {B : Nat} {v : Value} {x : Nat} {r : List Nat} {w : World} (h : Qu B v (x :: r) w) : ∃ g off c, v = .slice (some ⟨g, off, none⟩) (r.length + 1) c ∧ r.length + 1 ≤ c ∧ w.cell? ⟨g, off, none⟩ = some (.int .i64 (x : Int)) ∧ ∀ o', (r.length ≠ 0 → o' = some ⟨g, off + 1, none⟩) → Qu B (.slice o' r.length (c - 1)) r w := by
  obtain ⟨o, c, rfl, h1⟩ := h
  obtain ⟨g, off, cur, rfl, q1, q2, q3, q4, q5⟩ := h1 (Nat.succ_pos _)
  have q40 : r.length + 1 ≤ c := q4
  refine ⟨g, off, c, rfl, q4, (cell_of_row _ _ _ _ _ _ q2).trans (q5 0 (Nat.succ_pos _)), fun o' ho => ⟨o', c - 1, rfl, fun hp => ⟨g, off + 1, cur, ho (by omega), q1, q2, by omega, by omega, fun j hj => ?_⟩⟩⟩
  have := q5 (j + 1) (Nat.succ_lt_succ hj)
  rw [show off + (j + 1) = off + 1 + j by omega] at this
  rw [this, List.getD_cons_succ]
theorem getD_snoc {l : List Nat} {x : Nat} : (l ++ [x]).getD l.length 0 = x := by simp [List.getD]
theorem getD_left {l m : List Nat} {j : Nat} (h : j < l.length) : (l ++ m).getD j 0 = l.getD j 0 := by simp [List.getD, List.getElem?_append_left h]
/-- One more. -/
theorem Qu.add {B : Nat} {v : Value} {l : List Nat} {w : World} (h : Qu B v l w) (hl : 0 < l.length) (hl2 : l.length < 1000000000) (hB : B ≤ w.heap.size) (x : Nat) :
    ∃ o' c' w', (apI 28 #[v, .slice (some ⟨w.heap.size, 0, none⟩) 1 1]).run Try.prog (w.alloc (.cells #[.int .i64 (x : Int)] 3)) = .ok (.slice o' (l.length + 1) c') w' ∧ Qu B (.slice o' (l.length + 1) c') (l ++ [x]) w' ∧ Rm.Frm (fun k => B ≤ k ∧ ∃ C, w.heap[k]? = some (.cells C 3 (0, 0))) w w' := by
  obtain ⟨i0, hi0, hz0, hz1, hz2⟩ := info_parts info3
  obtain ⟨o, c, rfl, h1⟩ := h
  obtain ⟨g, off, cur, rfl, q1, q2, q3, q4, q5⟩ := h1 hl
  obtain ⟨A, hA⟩ : ∃ A, w.alloc (.cells #[.int .i64 (x : Int)] 3) = A := ⟨_, rfl⟩
  have rA : A.heap[w.heap.size]? = some (.cells #[.int .i64 (x : Int)] 3 (0, 0)) := by rw [← hA]; exact heap_alloc_new _ _
  have bA : Below w.heap.size w A := by rw [← hA]; exact (Below.refl _ w).alloc (Nat.le_refl _) _
  have sA : A.heap.size = w.heap.size + 1 := by rw [← hA]; simp
  have hg := (Array.getElem?_eq_some_iff.1 q2).1
  have rg : A.heap[g]? = some (.cells cur 3 (0, 0)) := (bA.block g hg).trans q2
  have hs : Src Try.prog i0.size 28 (.slice (some ⟨w.heap.size, 0, none⟩) 1 1) 1 [.int .i64 (x : Int)] A := Src.ofSlice A Try.underlying28 ⟨w.heap.size, 0, none⟩ 1 1 _ (by rw [hz1]; rfl)
    (World.news_of_block (cs := #[.int .i64 (x : Int)]) (t := 3) (fr := (0, 0)) rA) (fun u hu => by
      have q := List.mem_singleton.1 hu
      subst q; rfl)
  rw [hA]
  by_cases hr : l.length + 1 ≤ c
  · have cg : ∀ j, j < cur.size → A.cell? ⟨g, j, none⟩ = some cur[j]! := fun j hj => (cell_of_row _ _ _ _ _ _ rg).trans (by simp [hj])
    have R := run_append_room_src (P := Try.prog) A 28 28 28 3 i0 Try.underlying28 hi0 g off l.length c _ 1 _ hs hr
      (fun j hj => by
        have : j = 0 := by simp at hj; exact hj
        subst this
        rw [hz1, Nat.mul_one, Nat.add_zero, cg _ (by omega)]
        rfl) (fun j hj => frozen_of_row _ _ _ _ _ rg)
    rw [hz1, Nat.mul_one] at R
    refine ⟨_, c, _, R, ?_, ?_⟩
    · have e : A.setCells g (off + l.length) [.int .i64 (x : Int)] = A.setCell ⟨g, off + l.length, none⟩ (.int .i64 (x : Int)) := rfl
      rw [e]
      refine ⟨_, c, by simp, fun _ => ⟨g, off, _, rfl, q1, heap_setCell_same _ _ _ _ _ _ rg, by simpa using q3, by simpa using hr, fun j hj => ?_⟩⟩
      rw [Array.getElem?_setIfInBounds]
      by_cases k : j = l.length
      · subst k
        rw [if_pos rfl, if_pos (by omega), getD_snoc]
      · have hj2 : j < l.length := by simp at hj; omega
        rw [if_neg (by omega), q5 j hj2, getD_left hj2]
    · have e : A.setCells g (off + l.length) [.int .i64 (x : Int)] = A.setCell ⟨g, off + l.length, none⟩ (.int .i64 (x : Int)) := rfl
      rw [e, setCell_eq_setRow A g (off + l.length) _ _ _ _ rg]
      refine ⟨bA.os, bA.tape, bA.output, by simp [World.setRow, sA], fun k hk hx => ?_⟩
      have hkg : k ≠ g := fun e => hx ⟨by omega, cur, by rw [e]; exact q2⟩
      exact (setRow_other A g k _ hkg).trans (bA.block k hk)
  · have hf := run_firstCells_some (P := Try.prog) A.drew i0.size l.length ⟨g, off, none⟩ l.length c ((l.map fun n : Nat => Value.int .i64 (n : Int))) (by rw [hz1]; simp) (fun j v hv => by
      rw [List.getElem?_map] at hv
      cases hq : l[j]? with
      | none => rw [hq] at hv; cases hv
      | some y =>
        rw [hq] at hv
        simp at hv
        subst hv
        have hj : j < l.length := (List.getElem?_eq_some_iff.1 hq).1
        have := q5 j hj
        rw [List.getD_eq_getElem?_getD, hq] at this
        have rgd : A.drew.heap[g]? = some (.cells cur 3 (0, 0)) := rg
        rw [Addr.add_lit]
        exact (cell_of_row _ _ _ _ _ _ rgd).trans (by simpa using this))
    have hc : c < l.length + 1 := by omega
    have R := run_append_grow_src (P := Try.prog) A 28 28 28 3 i0 _ Try.underlying28 hi0 hz0 (some ⟨g, off, none⟩) l.length c _ hf _ 1 _ hs hc (by omega) (by
      rw [hz2]
      exact growslice_fits hc (by omega))
    have hge := grownCap_ge A (l.length + 1) c 3
    obtain ⟨gc, hgc⟩ : ∃ g, grownCap A (l.length + 1) c 3 = g := ⟨_, rfl⟩
    rw [hgc] at hge R
    obtain ⟨row, hrow⟩ : ∃ r, (List.map (fun n : Nat => Value.int .i64 (n : Int)) l ++ [Value.int .i64 (x : Int)]).toArray ++ Builtin.zeroCells (Value.int .i64 0).cells (gc - (l.length + 1)) = r := ⟨_, rfl⟩
    rw [hrow] at R
    have hsz : gc ≤ row.size := by
      rw [← hrow, Array.size_append, size_zeroCells]
      simp [Value.cells]
      omega
    have hat : ∀ j, j < l.length + 1 → row[j]? = some (.int .i64 (((l ++ [x]).getD j 0 : Nat) : Int)) := fun j hj1 => by
      rw [← hrow, Array.getElem?_append_left (by simp; omega)]
      simp only [List.getElem?_toArray]
      by_cases k : j = l.length
      · subst k
        rw [getD_snoc, List.getElem?_append_right (by simp)]
        simp
      · have hj2 : j < l.length := by omega
        rw [List.getElem?_append_left (by simpa using hj2), getD_left hj2]
        simp [List.getD, hj2]
    refine ⟨_, _, _, R, ?_, ?_⟩
    · exact ⟨_, gc, by simp, fun _ => ⟨A.heap.size, 0, row, rfl, by omega, heap_alloc_new A.drew _, by omega, by simpa using hge, fun j hj => by rw [Nat.zero_add]; exact hat j (by simpa using hj)⟩⟩
    · have b2 : Below A.heap.size A (A.drew.alloc (.cells row 3)) := ((Below.refl _ A).drew).alloc (Nat.le_refl _) _
      have b3 := bA.trans (b2.mono bA.size)
      exact Rm.Frm.of_below b3
end Go.Proofs.Ytibhjkmbbfgnpaa
