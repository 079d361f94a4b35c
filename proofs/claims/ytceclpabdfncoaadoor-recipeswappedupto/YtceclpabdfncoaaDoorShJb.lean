/- Several texts in one: ShRb, ShSumOf, ShHasher, ShBegin, ShObjs, ShClear. -/
import Derived.Test.YtceclpabdfncoaaDoorShMix
import Derived.Test.YtceclpabdfncoaaDoorShJa
import Derived.Deep.MidRow
import Derived.Lib.SliceRun
/- The document's own block: its tails, as code. -/
namespace Go.Proofs.YtceclpabdfncoaaDoor.Sha
open Go.RowKit
def headR : Code → Option Nat
  | .region id _ _ => some id
  | .seq a _ => headR a
  | .scope c => headR c
  | .block _ c => headR c
  | _ => none
def fromR (n : Nat) : Code → Option Code
  | .seq a b => if headR a = some n then some (.seq a b) else match fromR n a with
    | some c => some (.seq c b)
    | none => fromR n b
  | .scope c => fromR n c
  | _ => none
end Go.Proofs.YtceclpabdfncoaaDoor.Sha

namespace Go.Proofs.YtceclpabdfncoaaDoor.Sha
open Go.RowKit
def z32 : List Nat := List.replicate 32 0
/-- The four bytes of a word laid behind the others. -/
def sk (st : List Nat) : Nat → List Nat
  | 0 => z32
  | k + 1 => ((((sk st k).set (4 * k) (st.getD k 0 / 16777216 % 256)).set (4 * k + 1) (st.getD k 0 / 65536 % 256)).set (4 * k + 2) (st.getD k 0 / 256 % 256)).set (4 * k + 3) (st.getD k 0 % 256)
theorem sk_len (st : List Nat) : ∀ k, (sk st k).length = 32
  | 0 => rfl
  | k + 1 => by simp [sk, sk_len st k]
def sumS (st : List Nat) : List Nat := sk st 8
theorem sumS_len (st : List Nat) : (sumS st).length = 32 := sk_len st 8
theorem byt_set {l : List Nat} (h : Byt l) (i v : Nat) (hv : v < 256) : Byt (l.set i v) := by
  intro x hx
  rcases List.mem_or_eq_of_mem_set hx with h' | h'
  · exact h x h'
  · omega
theorem sk_byt (st : List Nat) : ∀ k, Byt (sk st k)
  | 0 => fun x hx => by have : x = 0 := List.eq_of_mem_replicate hx; omega
  | k + 1 => byt_set (byt_set (byt_set (byt_set (sk_byt st k) _ _ (Nat.mod_lt _ (by decide))) _ _ (Nat.mod_lt _ (by decide))) _ _ (Nat.mod_lt _ (by decide))) _ _ (Nat.mod_lt _ (by decide))
theorem sumS_byt (st : List Nat) : Byt (sumS st) := sk_byt st 8
theorem al3_0 (w : World) (A B C : Obj) : (((w.alloc A).alloc B).alloc C).heap[w.heap.size]? = some A := by
  rw [heap_alloc_old _ _ (h := by simp; omega), heap_alloc2_old]
theorem al3_1 (w : World) (A B C : Obj) : (((w.alloc A).alloc B).alloc C).heap[w.heap.size + 1]? = some B := by
  rw [heap_alloc_old _ _ (h := by simp), heap_alloc2_new]
theorem al3_2 (w : World) (A B C : Obj) : (((w.alloc A).alloc B).alloc C).heap[w.heap.size + 1 + 1]? = some C := by
  have := heap_alloc_new ((w.alloc A).alloc B) C
  simpa using this
set_option maxHeartbeats 1000000 in
theorem sum_any (st : List Nat) (hl : st.length = 8) (hw : Wrd st) (w : World) :
    Calls Tryd.prog 60 #[.agg (ws st)] w fun e w' => e = .returned (.agg (bs (sumS st))) ∧ Below w.heap.size w w' := by
  go_enter Tryd.func60, Tryd.ntmps60
  go_wp2_with (refine wpList_load_row rfl 96 _ rfl _ rfl 96 (ws st) (0, 0) _ (by exact al3_0 _ _ _ _) Tryd.underlying96 rfl (by rw [size41, ws_size, hl]) ?_)
  go_loopw [7] (fun i wr => ∃ (k : Nat) (l : List Nat), k ≤ 8 ∧ i = .int .i64 k ∧ Hid (l = sk st k) ∧ Hid (wr.heap[w.heap.size + 1 + 1]? = some (.cells (bs l) 57 (0, 0))) ∧ Hid (wr.heap[w.heap.size + 1]? = some (.cells (bs z32) 57 (0, 0))) ∧ Below w.heap.size w wr) (fun i _ => 8 - (intOf i).toNat)
  case atStart =>
    refine ⟨0, z32, by omega, rfl, rfl, ?_, ?_, ?_⟩
    · exact al3_2 _ _ _ _
    · exact al3_1 _ _ _ _
    · exact (((Below.refl _ _).alloc (Nat.le_refl _) _).alloc (by simp) _).alloc (by simp; omega) _
  case round =>
    obtain ⟨k, l, hk, rfl, Hl, HQ, HZ, hbl⟩ := hrel
    have hll : l.length = 32 := by rw [Hl.out, sk_len]
    by_cases hlt : k < 8
    · obtain ⟨x, hx⟩ : ∃ x, x = st.getD k 0 := ⟨_, rfl⟩
      have hix := fun (w : World) => run_index_ws (P := Tryd.prog) w Tryd.underlying96 Tryd.underlying95 size40 st hl k hlt
      rw [← hx] at hix
      have lx : x < 4294967296 := by rw [hx]; exact wrd_get hw _
      have HX : Hid (x = st.getD k 0) := hx
      clear hx
      have cr : ∀ j, j < 32 → wr.cell? ⟨w.heap.size + 1 + 1, j, none⟩ = some (.int .u8 ((l.getD j 0 : Nat) : Int)) := fun j hj => by
        rw [cell_of_row wr _ _ _ _ _ HQ.out, bs_get _ _ (by omega)]
      have c0 := cr (4 * k) (by omega)
      have c1 := cr (4 * k + 1) (by omega)
      have c2 := cr (4 * k + 2) (by omega)
      have c3 := cr (4 * k + 3) (by omega)
      have f0 := frozen_of_row wr _ (4 * k) _ _ HQ.out
      have f1 := frozen_of_row wr _ (4 * k + 1) _ _ HQ.out
      have f2 := frozen_of_row wr _ (4 * k + 2) _ _ HQ.out
      have f3 := frozen_of_row wr _ (4 * k + 3) _ _ HQ.out
      have hk1 : (k : Int) < 8 := by omega
      clear cr
      go_wp2
      go_roundw
      case rel =>
        have e0 : ((x : Int) / 16777216) = ((x / 16777216 % 256 : Nat) : Int) := by omega
        have e1 : ((x : Int) / 65536 % 256) = ((x / 65536 % 256 : Nat) : Int) := by omega
        have e2 : ((x : Int) / 256 % 256) = ((x / 256 % 256 : Nat) : Int) := by omega
        have e3 : ((x : Int) % 256) = ((x % 256 : Nat) : Int) := by omega
        rw [e0, e1, e2, e3]
        refine ⟨k + 1, sk st (k + 1), by omega, by go_num, rfl, ?_, ?_, ?_⟩
        · have h0 := heap_setCell_same wr (w.heap.size + 1 + 1) (4 * k) _ _ (.int .u8 ((x / 16777216 % 256 : Nat) : Int)) HQ.out
          rw [bs_set] at h0
          have h1 := heap_setCell_same _ (w.heap.size + 1 + 1) (4 * k + 1) _ _ (.int .u8 ((x / 65536 % 256 : Nat) : Int)) h0
          rw [bs_set] at h1
          have h2 := heap_setCell_same _ (w.heap.size + 1 + 1) (4 * k + 2) _ _ (.int .u8 ((x / 256 % 256 : Nat) : Int)) h1
          rw [bs_set] at h2
          have h3 := heap_setCell_same _ (w.heap.size + 1 + 1) (4 * k + 3) _ _ (.int .u8 ((x % 256 : Nat) : Int)) h2
          rw [bs_set, HX.out, Hl.out] at h3
          rw [HX.out]
          exact h3
        · exact (heap_setCell_other _ _ _ _ (by simp)).trans ((heap_setCell_other _ _ _ _ (by simp)).trans ((heap_setCell_other _ _ _ _ (by simp)).trans ((heap_setCell_other _ _ _ _ (by simp)).trans HZ.out)))
        · exact (((hbl.setCell (by simp; omega) _).setCell (by simp; omega) _).setCell (by simp; omega) _).setCell (by simp; omega) _
      case measure => simp [intOf]; omega
    · have hk8 : k = 8 := by omega
      have HE : Hid (l = sumS st) := by show _ = _; rw [Hl.out, hk8]; rfl
      clear hk8 Hl
      go_wp2_with (first | refine wpList_load_row rfl 57 _ rfl _ rfl 57 _ (0, 0) _ (by exact HQ.out) Tryd.underlying57 rfl (by rw [size28, bs_size, hll]) ?_ | refine wpList_store_row rfl 57 _ _ rfl _ _ rfl rfl 57 _ (by exact HZ.out) (by rw [size28, bs_size, hll]) (by rw [bs_size, bs_size, hll]; rfl) (bs_one _) ?_)
      have hres : (wr.setRow (w.heap.size + 1) (bs l)).heap[w.heap.size + 1]? = some (.cells (bs l) 57 (0, 0)) := setRow_heap _ _ _ _ _ _ HZ.out
      refine bodyPost_ret (v := .agg (bs l)) (results_cell_row rfl _ _ (w.heap.size + 1) 57 _ (0, 0) _ rfl hres Tryd.underlying57 rfl (by rw [size28, bs_size, hll])) rfl ⟨?_, ?_⟩
      · rw [HE.out]
      · exact below_setRow hbl (by omega) _
end Go.Proofs.YtceclpabdfncoaaDoor.Sha

namespace Go.Proofs.YtceclpabdfncoaaDoor.Sha
open Go.RowKit
/-- A hasher's cells: the state, the rest, the length. -/
def hs (st rest : List Nat) (n : Nat) : Array Value := (st.map (fun (x : Nat) => Value.int .u32 (x : Int)) ++ (rest.map (fun (x : Nat) => Value.int .u8 (x : Int)) ++ [Value.int .i64 (n : Int)])).toArray
theorem hs_size (st rest : List Nat) (n : Nat) (h1 : st.length = 8) (h2 : rest.length = 64) : (hs st rest n).size = 73 := by simp [hs, h1, h2]
theorem hs_state (st rest : List Nat) (n : Nat) (h1 : st.length = 8) (i : Nat) (hi : i < 8) : (hs st rest n)[i]? = some (.int .u32 ((st.getD i 0 : Nat) : Int)) := by
  have : i < st.length := by omega
  simp [hs, List.getElem?_append, this, List.getD]
theorem hs_rest (st rest : List Nat) (n : Nat) (h1 : st.length = 8) (h2 : rest.length = 64) (i : Nat) (hi : i < 64) : (hs st rest n)[8 + i]? = some (.int .u8 ((rest.getD i 0 : Nat) : Int)) := by
  have h3 : ¬ 8 + i < st.length := by omega
  have h4 : 8 + i - st.length = i := by omega
  have h5 : i < rest.length := by omega
  simp [hs, List.getElem?_append, h3, h4, h5, List.getD]
theorem hs_len (st rest : List Nat) (n : Nat) (h1 : st.length = 8) (h2 : rest.length = 64) : (hs st rest n)[72]? = some (.int .i64 (n : Int)) := by
  have h3 : ¬ 72 < st.length := by omega
  have h4 : ¬ 72 - st.length < rest.length := by omega
  have h5 : 72 - st.length - rest.length = 0 := by omega
  simp [hs, List.getElem?_append, h3, h4, h5]
/-- Of what was there, block g alone may have turned. -/
structure Touch (g : Nat) (w w' : World) : Prop where
  os : w'.os = w.os
  tape : w'.tape = w.tape
  output : w'.output = w.output
  size : w.heap.size ≤ w'.heap.size
  block : ∀ j, j < w.heap.size → j ≠ g → w'.heap[j]? = w.heap[j]?
theorem Touch.refl (g : Nat) (w : World) : Touch g w w := ⟨rfl, rfl, rfl, Nat.le_refl _, fun _ _ _ => rfl⟩
theorem Touch.trans {g : Nat} {a b c : World} (h : Touch g a b) (k : Touch g b c) : Touch g a c :=
  ⟨k.os.trans h.os, k.tape.trans h.tape, k.output.trans h.output, Nat.le_trans h.size k.size, fun j hj hne => (k.block j (Nat.lt_of_lt_of_le hj h.size) hne).trans (h.block j hj hne)⟩
theorem Touch.of_below {g : Nat} {w w' : World} (h : Below w.heap.size w w') : Touch g w w' := ⟨h.os, h.tape, h.output, h.size, fun j hj _ => h.block j hj⟩
theorem Touch.drew {g : Nat} {a w : World} (h : Touch g a w) : Touch g a w.drew := ⟨h.os, h.tape, h.output, h.size, h.block⟩
theorem Touch.setRow {g : Nat} {a w : World} (h : Touch g a w) (cs : Array Value) : Touch g a (w.setRow g cs) :=
  ⟨h.os, h.tape, h.output, by simpa using h.size, fun j hj hne => (setRow_other _ _ _ _ hne).trans (h.block j hj hne)⟩
theorem Touch.setCell {g i : Nat} {a w : World} (h : Touch g a w) (v : Value) : Touch g a (w.setCell ⟨g, i, none⟩ v) :=
  ⟨h.os, h.tape, h.output, by simpa [World.setCell] using h.size, fun j hj hne => (heap_setCell_other _ _ _ _ hne).trans (h.block j hj hne)⟩
/-- A hasher that the caller made itself: nothing older has turned. -/
theorem Touch.below {g B : Nat} {a w : World} (h : Touch g a w) (hB : B ≤ g) (hs : B ≤ a.heap.size) : Below B a w :=
  ⟨h.os, h.tape, h.output, h.size, fun j hj => h.block j (by omega) (by omega)⟩
end Go.Proofs.YtceclpabdfncoaaDoor.Sha

namespace Go.Proofs.YtceclpabdfncoaaDoor.Sha
open Go.RowKit
theorem set_row {w : World} {g t i : Nat} {cs : Array Value} (v : Value) (h : w.heap[g]? = some (.cells cs t (0, 0))) : (w.setCell ⟨g, i, none⟩ v).heap[g]? = some (.cells (cs.setIfInBounds i v) t (0, 0)) := heap_setCell_same _ _ _ _ _ _ h
theorem hs_set8 (st rest : List Nat) (n : Nat) (hst : st.length = 8) (s0 s1 s2 s3 s4 s5 s6 s7 : Nat) :
    ((((((((hs st rest n).setIfInBounds 0 (.int .u32 (s0 : Int))).setIfInBounds 1 (.int .u32 (s1 : Int))).setIfInBounds 2 (.int .u32 (s2 : Int))).setIfInBounds 3 (.int .u32 (s3 : Int))).setIfInBounds 4 (.int .u32 (s4 : Int))).setIfInBounds 5 (.int .u32 (s5 : Int))).setIfInBounds 6 (.int .u32 (s6 : Int))).setIfInBounds 7 (.int .u32 (s7 : Int)) = hs [s0, s1, s2, s3, s4, s5, s6, s7] rest n := by
  match st, hst with
  | [_, _, _, _, _, _, _, _], _ => simp only [hs, List.map_cons, List.map_nil, List.cons_append, List.nil_append, List.setIfInBounds_toArray, List.set_cons_zero, List.set_cons_succ]
theorem hs_row8 (w : World) (g : Nat) (st rest : List Nat) (n : Nat) (hst : st.length = 8) (s0 s1 s2 s3 s4 s5 s6 s7 : Nat) (h : w.heap[g]? = some (.cells (hs st rest n) 99 (0, 0))) :
    ((((((((w.setCell ⟨g, 0, none⟩ (.int .u32 (s0 : Int))).setCell ⟨g, 1, none⟩ (.int .u32 (s1 : Int))).setCell ⟨g, 2, none⟩ (.int .u32 (s2 : Int))).setCell ⟨g, 3, none⟩ (.int .u32 (s3 : Int))).setCell ⟨g, 4, none⟩ (.int .u32 (s4 : Int))).setCell ⟨g, 5, none⟩ (.int .u32 (s5 : Int))).setCell ⟨g, 6, none⟩ (.int .u32 (s6 : Int))).setCell ⟨g, 7, none⟩ (.int .u32 (s7 : Int))).heap[g]? = some (.cells (hs [s0, s1, s2, s3, s4, s5, s6, s7] rest n) 99 (0, 0)) := by
  rw [← hs_set8 st rest n hst s0 s1 s2 s3 s4 s5 s6 s7]
  exact set_row (i := 7) _ (set_row (i := 6) _ (set_row (i := 5) _ (set_row (i := 4) _ (set_row (i := 3) _ (set_row (i := 2) _ (set_row (i := 1) _ (set_row (i := 0) _ h)))))))
theorem touch8 (w : World) (g : Nat) (v0 v1 v2 v3 v4 v5 v6 v7 : Value) :
    Touch g w ((((((((w.setCell ⟨g, 0, none⟩ v0).setCell ⟨g, 1, none⟩ v1).setCell ⟨g, 2, none⟩ v2).setCell ⟨g, 3, none⟩ v3).setCell ⟨g, 4, none⟩ v4).setCell ⟨g, 5, none⟩ v5).setCell ⟨g, 6, none⟩ v6).setCell ⟨g, 7, none⟩ v7) :=
  ((((((((Touch.refl g w).setCell v0).setCell v1).setCell v2).setCell v3).setCell v4).setCell v5).setCell v6).setCell v7
set_option maxHeartbeats 1000000 in
theorem begin_go (g : Nat) (st rest : List Nat) (n : Nat) (hst : st.length = 8) (hrs : rest.length = 64) (hn : (n : Int) ≠ 0) (w : World) (hh : Hid (w.heap[g]? = some (.cells (hs st rest n) 99 (0, 0)))) :
    Calls Tryd.prog 57 #[.pointer (some ⟨g, 0, none⟩)] w fun e w' => e = .returned (.tuple #[]) ∧ w' = w := by
  have cn : w.cell? ⟨g, 72, none⟩ = some (.int .i64 (n : Int)) := by rw [cell_of_row w _ _ _ _ _ hh.out, hs_len _ _ _ hst hrs]
  go_enter Tryd.func57, Tryd.ntmps57
  go_wp2
  go_end0
  exact ⟨rfl, rfl⟩
set_option maxHeartbeats 1000000 in
theorem begin_new (g : Nat) (st rest : List Nat) (hst : st.length = 8) (hrs : rest.length = 64) (s0 s1 s2 s3 s4 s5 s6 s7 : Nat) (w : World) (hh : Hid (w.heap[g]? = some (.cells (hs st rest 0) 99 (0, 0))))
    (k0 : w.cell? ⟨3, 0, none⟩ = some (.int .u32 (s0 : Int))) (k1 : w.cell? ⟨3, 1, none⟩ = some (.int .u32 (s1 : Int))) (k2 : w.cell? ⟨3, 2, none⟩ = some (.int .u32 (s2 : Int))) (k3 : w.cell? ⟨3, 3, none⟩ = some (.int .u32 (s3 : Int)))
    (k4 : w.cell? ⟨3, 4, none⟩ = some (.int .u32 (s4 : Int))) (k5 : w.cell? ⟨3, 5, none⟩ = some (.int .u32 (s5 : Int))) (k6 : w.cell? ⟨3, 6, none⟩ = some (.int .u32 (s6 : Int))) (k7 : w.cell? ⟨3, 7, none⟩ = some (.int .u32 (s7 : Int))) :
    Calls Tryd.prog 57 #[.pointer (some ⟨g, 0, none⟩)] w fun e w' => e = .returned (.tuple #[]) ∧ w'.heap[g]? = some (.cells (hs [s0, s1, s2, s3, s4, s5, s6, s7] rest 0) 99 (0, 0)) ∧ Touch g w w' := by
  have cn : w.cell? ⟨g, 72, none⟩ = some (.int .i64 0) := by rw [cell_of_row w _ _ _ _ _ hh.out, hs_len _ _ _ hst hrs]; rfl
  have cs : ∀ i, i < 8 → w.cell? ⟨g, i, none⟩ = some (.int .u32 ((st.getD i 0 : Nat) : Int)) := fun i hi => by rw [cell_of_row w _ _ _ _ _ hh.out, hs_state _ _ _ hst i hi]
  have c0 := cs 0 (by decide)
  have c1 := cs 1 (by decide)
  have c2 := cs 2 (by decide)
  have c3 := cs 3 (by decide)
  have c4 := cs 4 (by decide)
  have c5 := cs 5 (by decide)
  have c6 := cs 6 (by decide)
  have c7 := cs 7 (by decide)
  have fz : ∀ i, w.frozen? ⟨g, i, none⟩ = false := fun i => frozen_of_row w _ i _ _ hh.out
  clear cs
  go_enter Tryd.func57, Tryd.ntmps57
  go_wp2
  go_end0
  exact ⟨rfl, hs_row8 w g st rest 0 hst s0 s1 s2 s3 s4 s5 s6 s7 hh.out, touch8 w g _ _ _ _ _ _ _ _⟩
end Go.Proofs.YtceclpabdfncoaaDoor.Sha

namespace Go.Proofs.YtceclpabdfncoaaDoor.Sha
open Go.RowKit
theorem size43 : (Tryd.prog.info? 99).map (·.size) = some 73 := by kernel_rfl
theorem hs_one (st rest : List Nat) (n : Nat) : (hs st rest n).all (·.oneCell') = true := by
  simp [hs, Value.oneCell']
def hz : Array Value := hs (List.replicate 8 0) (List.replicate 64 0) 0
theorem zero43 (w : World) : Sem.run Tryd.prog (zeroValue 99) w = .ok (.agg hz) w := by kernel_rfl
theorem zc76 : Tryd.zeroCells99 = hz := by kernel_rfl
attribute [local go_sem] zero43
end Go.Proofs.YtceclpabdfncoaaDoor.Sha

namespace Go.Proofs.YtceclpabdfncoaaDoor.Sha
open Go.RowKit
theorem zero5 (w : World) : (zeroValue 5).run Tryd.prog w = .ok (.int .u8 0) w := by kernel_rfl
/-- clear on a part of a row. -/
theorem run_clear_row (w : World) (ty g o m c t : Nat) (cur : Array Value) (hg : w.heap[g]? = some (.cells cur t (0, 0))) (hm : o + m ≤ cur.size) :
    (Builtin.clear_ #[23] ty #[.slice (some ⟨g, o, none⟩) m c]).run Tryd.prog w = .ok (.tuple #[]) (w.setRow g (cur.toList.take o ++ List.replicate m (Value.int .u8 0) ++ cur.toList.drop (o + m)).toArray) := by
  have hs := run_storeCells_at (P := Tryd.prog) g o t (List.replicate m (Value.int .u8 0)) 0 cur w hg (by simpa using hm) (fun v hv => by rw [List.eq_of_mem_replicate hv]; rfl)
  simp only [Nat.add_zero, List.length_replicate] at hs
  cases m with
  | zero =>
    have e : w.setRow g (cur.toList.take o ++ List.replicate 0 (Value.int .u8 0) ++ cur.toList.drop (o + 0)).toArray = w := by
      simp only [List.replicate_zero, List.append_nil, Nat.add_zero, List.take_append_drop, Array.toArray_toList]
      exact setRow_self w g cur t (0, 0) hg
    rw [e]
    simp [Builtin.clear_, run_underlying Tryd.underlying23]
  | succ m =>
    have hz : (Builtin.zeroCells (Value.int .u8 0).cells (m + 1)).toList = List.replicate (m + 1) (Value.int .u8 0) := by
      simp [Builtin.zeroCells, Value.cells]
      apply List.ext_getElem
      · simp
      · intro i h1 h2
        simp [Nat.mod_one]
    simp [Builtin.clear_, run_underlying Tryd.underlying23, hz, hs]
theorem hs_clear (st rest : List Nat) (n u : Nat) (hst : st.length = 8) (hrs : rest.length = 64) (hu : u < 64) :
    (((hs st rest n).setIfInBounds (8 + u) (Value.int .u8 128)).toList.take (8 + (u + 1)) ++ List.replicate (63 - u) (Value.int .u8 0) ++ ((hs st rest n).setIfInBounds (8 + u) (Value.int .u8 128)).toList.drop (8 + (u + 1) + (63 - u))).toArray = hs st (rest.take u ++ 128 :: List.replicate (63 - u) 0) n := by
  have e1 : ((hs st rest n).setIfInBounds (8 + u) (Value.int .u8 128)).toList = st.map (fun (x : Nat) => Value.int .u32 (x : Int)) ++ ((rest.take u).map (fun (x : Nat) => Value.int .u8 (x : Int)) ++ (Value.int .u8 128 :: ((rest.drop (u + 1)).map (fun (x : Nat) => Value.int .u8 (x : Int)) ++ [Value.int .i64 (n : Int)]))) := by
    simp only [hs, List.setIfInBounds_toArray, List.toList_toArray]
    rw [List.set_append_right _ _ (by simp [hst]), List.set_append_left _ _ (by simp [hst, hrs, hu])]
    have : (rest.map (fun (x : Nat) => Value.int .u8 (x : Int))).set (8 + u - (st.map (fun (x : Nat) => Value.int .u32 (x : Int))).length) (Value.int .u8 128) = (rest.take u).map (fun (x : Nat) => Value.int .u8 (x : Int)) ++ Value.int .u8 128 :: (rest.drop (u + 1)).map (fun (x : Nat) => Value.int .u8 (x : Int)) := by
      rw [List.length_map, hst, Nat.add_sub_cancel_left, List.set_eq_take_append_cons_drop, if_pos (by simp [hrs]; omega), List.map_take, List.map_drop]
    rw [this]
    simp
  rw [e1]
  have l1 : (st.map (fun (x : Nat) => Value.int .u32 (x : Int))).length = 8 := by simp [hst]
  have l2 : ((rest.take u).map (fun (x : Nat) => Value.int .u8 (x : Int))).length = u := by rw [List.length_map, List.length_take, hrs]; omega
  have l3 : ((rest.drop (u + 1)).map (fun (x : Nat) => Value.int .u8 (x : Int))).length = 63 - u := by rw [List.length_map, List.length_drop, hrs]; omega
  generalize hA : st.map (fun (x : Nat) => Value.int .u32 (x : Int)) = A at *
  have t1 : (A ++ ((rest.take u).map (fun (x : Nat) => Value.int .u8 (x : Int)) ++ (Value.int .u8 128 :: ((rest.drop (u + 1)).map (fun (x : Nat) => Value.int .u8 (x : Int)) ++ [Value.int .i64 (n : Int)])))) = (A ++ ((rest.take u).map (fun (x : Nat) => Value.int .u8 (x : Int)) ++ [Value.int .u8 128])) ++ ((rest.drop (u + 1)).map (fun (x : Nat) => Value.int .u8 (x : Int)) ++ [Value.int .i64 (n : Int)]) := by simp
  rw [t1, List.take_left' (by simp [l1, hrs]; omega), ← List.append_assoc (A ++ _), List.drop_left' (by simp [l1, hrs]; omega)]
  simp [hs, hA]
end Go.Proofs.YtceclpabdfncoaaDoor.Sha
