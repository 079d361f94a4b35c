/- Slices of bytes, appended to, cut; the tables of digits. -/
import Derived.Test.YtceclpabdfncoaaDoorRows
import Derived.Test.YtceclpabdfncoaaDoorBytes
import Derived.Test.YtceclpabdfncoaaDoorTxM
import Derived.Deep.QuietTactic
import Derived.BigQuiet
import Derived.Deep.RegionHeld3
import Derived.Deep.AppendLies
import Derived.Laws.BytesArg
import Derived.Laws.OwnMore
import Derived.SizedLaws
import Derived.ChangeSlices
namespace Go.Proofs.YtceclpabdfncoaaDoor
open Go.RowKit Go.ChangeShapes Go.WideShapes Go.ChangeAt
theorem info5 : (Tryd.prog.info? 5).map (fun i => (i.zero, i.size, i.bytes)) = some (some (.int .u8 0), 1, 1) := by kernel_rfl
theorem size5 : (Tryd.prog.info? 5).map (·.size) = some 1 := by kernel_rfl
theorem cells5 : Tryd.prog.cellsOf 5 = 1 := by kernel_rfl
theorem laidOut : laidOutB Tryd.prog = true := by kernel_rfl
theorem getT {l : List Nat} (h : Byt l) (i : Nat) : l.getD i 0 < 256 := getD_lt h i
theorem bs_toList (l : List Nat) : (bs l).toList = l.map (fun (x : Nat) => Value.int .u8 (x : Int)) := by simp [bs]
theorem bs_app (l e : List Nat) : (bs (l ++ e)).toList = (bs l).toList ++ (bs e).toList := by simp [bs]
theorem below_grown {B : Nat} {a x y : World} {row : Option Nat} (h : Below B a x) (hg : x.grownBy y row) (hB : B ≤ x.heap.size) (hr : ∀ g, row = some g → B ≤ g) : Below B a y :=
  ⟨hg.os.trans h.os, hg.tape.trans h.tape, hg.output.trans h.output, Nat.le_trans h.size hg.size, fun j hj => (hg.block j (by omega) (fun he => by have := hr j he.symm; omega)).trans (h.block j hj)⟩
/-- A slice of bytes. -/
def Byl (v : Value) (d : List Nat) (w : World) : Prop :=
  (v = .slice none 0 0 ∧ d = []) ∨ ∃ b off cap, v = .slice (some ⟨b, off, none⟩) d.length cap ∧ d.length ≤ cap ∧ cap ≤ maxLen ∧ b < w.heap.size ∧ ∀ j, j < d.length → w.cell? ⟨b, off + j, none⟩ = some (.int .u8 ((d.getD j 0 : Nat) : Int))
theorem Byl.keep {v : Value} {d : List Nat} {w w' : World} (h : Byl v d w) (hs : w.heap.size ≤ w'.heap.size) (hb : ∀ j, j < w.heap.size → w'.heap[j]? = w.heap[j]?) : Byl v d w' := by
  rcases h with h | ⟨b, off, cap, h1, h2, h3, h5, h6⟩
  · exact .inl h
  · exact .inr ⟨b, off, cap, h1, h2, h3, by omega, fun j hj => (World.cell?_of_block (w := w) (hb b h5)).trans (h6 j hj)⟩
theorem Byl.below {v : Value} {d : List Nat} {w w' : World} (h : Byl v d w) (hb : Below w.heap.size w w') : Byl v d w' := h.keep hb.size hb.block
theorem Byl.form {v : Value} {d : List Nat} {w : World} (h : Byl v d w) : ∃ o c, v = .slice o d.length c ∧ d.length ≤ c ∧ c ≤ 9223372036854775807 ∧ (0 < d.length → ∃ b off, o = some ⟨b, off, none⟩ ∧ b < w.heap.size ∧ ∀ j, j < d.length → w.cell? ⟨b, off + j, none⟩ = some (.int .u8 ((d.getD j 0 : Nat) : Int))) := by
  rcases h with ⟨rfl, rfl⟩ | ⟨b, off, cap, rfl, h2, h3, h5, h6⟩
  · exact ⟨none, 0, rfl, Nat.le_refl _, by omega, fun h => by simp at h⟩
  · exact ⟨_, cap, rfl, h2, by unfold maxLen at h3; omega, fun _ => ⟨b, off, rfl, h5, h6⟩⟩
theorem byl_row {w : World} {g : Nat} {l : List Nat} {t : TypeId} {fr : Nat × Nat} (h : w.heap[g]? = some (.cells (bs l) t fr)) (hm : l.length ≤ maxLen) : Byl (.slice (some ⟨g, 0, none⟩) l.length l.length) l w :=
  .inr ⟨g, 0, l.length, rfl, Nat.le_refl _, hm, (Array.getElem?_eq_some_iff.1 h).1, fun j hj => by rw [Nat.zero_add, cell_of_row w _ _ _ _ _ h, bs_get _ _ hj]⟩
theorem byl_own {w : World} {base n : Nat} {v : Value} {l : List Nat} (h : w.ownsRow base 5 1 v n (bs l).toList) : Byl v l w ∧ n = l.length := by
  obtain ⟨hl, ⟨hv, h0⟩ | ⟨g, cap, cur, hv, hb, hg, hnc, hcm, hcs, htk⟩⟩ := h
  · have hl0 : n = l.length := by simpa [bs] using hl.symm
    subst hv
    have : l = [] := List.length_eq_zero_iff.1 (by omega)
    exact ⟨.inl ⟨rfl, this⟩, hl0⟩
  · have hl0 : n = l.length := by simpa [bs] using hl.symm
    subst hl0
    refine ⟨.inr ⟨g, 0, cap, hv, hnc, hcm, (Array.getElem?_eq_some_iff.1 hg).1, fun j hj => ?_⟩, rfl⟩
    have h1 : cur.toList[j]? = (bs l).toList[j]? := by rw [← htk, List.getElem?_take, if_pos (by omega)]
    rw [Nat.zero_add, cell_of_row w _ _ _ _ _ hg, ← Array.getElem?_toList, h1, Array.getElem?_toList, bs_get _ _ hj]
/-- An append, kept shut. -/
def appR (ty : Nat) (vs : Array Value) : Sem Value := Builtin.append_ #[23, 23] ty vs
theorem toApp (ty : Nat) (vs : Array Value) : Builtin.append_ #[23, 23] ty vs = appR ty vs := rfl
theorem grownBy_refl (w : World) (row : Option Nat) : w.grownBy w row := ⟨rfl, rfl, rfl, Nat.le_refl _, fun _ _ _ => rfl⟩
theorem run_append_byl (w : World) (base n ty : Nat) (v sv : Value) (l e : List Nat) (hown : w.ownsRow base 5 1 v n (bs l).toList) (hs : Byl sv e w) (hb : n + e.length ≤ 140737488355328) (hbase : base ≤ w.heap.size) :
    ∃ v' w', (appR ty #[v, sv]).run Tryd.prog w = .ok v' w' ∧ w'.ownsRow base 5 1 v' (n + e.length) (bs (l ++ e)).toList ∧ w.grownBy w' v.ownBlock := by
  obtain ⟨i0, hi0, hz0, hz1, hz2⟩ := info_parts info5
  rcases hs with ⟨rfl, rfl⟩ | ⟨b, off, cap, rfl, h1, h2, h3, h4⟩
  · refine ⟨v, w, run_append_owned_none (P := Tryd.prog) (w := w) base 23 ty 5 i0 1 Tryd.underlying23 hi0 v n _ hown, ?_, grownBy_refl _ _⟩
    rw [List.append_nil]; exact hown
  · obtain ⟨v', w', hr, ho, hg, _⟩ := run_append_own (P := Tryd.prog) w base 23 ty 5 i0 _ 1 1 Tryd.underlying23 hi0 hz0 hz1 hz2 rfl (by omega) v n _ hown ⟨b, off, none⟩ e.length cap (bs e).toList (by simp [bs]) (fun j u hu => by
        have hj : j < e.length := by have := (List.getElem?_eq_some_iff.1 hu).1; simpa [bs] using this
        rw [Array.getElem?_toList, bs_get _ _ hj] at hu
        rw [← hu, Addr.add_mid]
        exact h4 j hj) (fun u hu => by
          have := bs_one e
          rw [Array.all_eq_true_iff_forall_mem] at this
          exact this u (by simpa using hu)) (by unfold maxLen; omega) (by omega) hbase
    refine ⟨v', w', hr, ?_, hg⟩
    rw [bs_app]; exact ho
/-- A made slice, kept shut. -/
def mkR (l c : Value) : Sem Value := Instr.makeSlice 23 l c
theorem toMk (l c : Value) : Instr.makeSlice 23 l c = mkR l c := rfl
theorem run_mk0 (w : World) (c : Nat) (hc : c ≤ 281474976710656) : ∃ w', (mkR (.int .i64 0) (.int .i64 (c : Int))).run Tryd.prog w = .ok (.slice (some ⟨w.heap.size, 0, none⟩) 0 c) w' ∧ w'.ownsRow w.heap.size 5 1 (.slice (some ⟨w.heap.size, 0, none⟩) 0 c) 0 (bs []).toList ∧ Below w.heap.size w w' := by
  obtain ⟨i0, hi0, hz0, hz1, hz2⟩ := info_parts info5
  obtain ⟨w', h1, h2, h3⟩ := run_make_own (P := Tryd.prog) w w.heap.size 23 5 i0 _ 1 Tryd.underlying23 hi0 hz0 hz1 .i64 .i64 c (by rw [hz2]; omega) (by unfold maxLen; omega) (Nat.le_refl _)
  exact ⟨w', h1, h2, below_grown (Below.refl _ w) h3 (Nat.le_refl _) (fun g hg => by cases hg)⟩
set_option maxRecDepth 100000 in
theorem run_mkN (w : World) (n : Nat) (hc : n ≤ 281474976710656) : ∃ w', (mkR (.int .i64 (n : Int)) (.int .i64 (n : Int))).run Tryd.prog w = .ok (.slice (some ⟨w.heap.size, 0, none⟩) n n) w' ∧ w'.heap[w.heap.size]? = some (.cells (bs (List.replicate n 0)) 5 (0, 0)) ∧ Below w.heap.size w w' := by
  obtain ⟨i0, hi0, hz0, hz1, hz2⟩ := info_parts info5
  have hr := run_make (P := Tryd.prog) w 23 5 i0 _ Tryd.underlying23 hi0 hz0 .i64 .i64 n n (by omega) (Int.le_refl _) (by rw [hz2]; omega) (by omega)
  simp only [Int.toNat_natCast] at hr
  refine ⟨_, hr, ?_, (Below.refl _ w).alloc (Nat.le_refl _) _⟩
  rw [heap_alloc_new, hz1, Nat.mul_one]
  congr 2
  apply Array.ext'
  have : (Value.int IntKind.u8 0).cells = #[Value.int .u8 0] := rfl
  rw [this, toList_madeCells_one]
  simp [bs]
/-- A slice cut, kept shut. -/
def slR (v : Value) (lo hi mx : Option Value) : Sem Value := Instr.slice 23 v lo hi mx
theorem toSl (v : Value) (lo hi mx : Option Value) : Instr.slice 23 v lo hi mx = slR v lo hi mx := rfl
theorem elem22 : Tryd.prog.elem 23 = 5 := by kernel_rfl
theorem u22 : Tryd.prog.underlying 23 = some (.slice (Tryd.prog.elem 23)) := by rw [elem22]; exact Tryd.underlying23
theorem run_cut_h (w : World) (o : Option Addr) (n c h : Nat) (hh : h ≤ c) : (slR (.slice o n c) none (some (.int .i64 (h : Int))) none).run Tryd.prog w = .ok (sliced o 0 h c 1) w := by
  have := run_slice_h (P := Tryd.prog) w 23 o n c u22 .i64 (h : Int) (by omega) (by omega)
  unfold slR
  rw [this, elem22, run_size_bs w size5]
  simp [Result.andThen]
theorem run_cut_l (w : World) (o : Option Addr) (n c h : Nat) (hh : h ≤ n) : (slR (.slice o n c) (some (.int .i64 (h : Int))) none none).run Tryd.prog w = .ok (sliced o h n c 1) w := by
  have := run_slice_l (P := Tryd.prog) w 23 o n c u22 .i64 (h : Int) (by omega) (by omega)
  unfold slR
  rw [this, elem22, run_size_bs w size5]
  simp [Result.andThen]
theorem Below.drewN' {B : Nat} {a w : World} (h : Below B a w) (n : Nat) : Below B a (w.drewN n) := ⟨h.os, h.tape, h.output, h.size, h.block⟩
theorem i64_and1 (n : Nat) : bits .and .i64 (n : Int) 1 = ((n % 2 : Nat) : Int) := by
  have h1 : (BitVec.ofInt 64 1).toNat = 2 ^ 1 - 1 := by decide
  have key : (BitVec.ofInt 64 (n : Int) &&& BitVec.ofInt 64 1).toNat = ((n : Int) % ((2 ^ 64 : Nat) : Int)).toNat % 2 ^ 1 := by
    rw [BitVec.toNat_and, BitVec.toNat_ofInt, h1, Nat.and_two_pow_sub_one_eq_mod]
  show IntKind.i64.wrap ((BitVec.ofInt 64 (n : Int) &&& BitVec.ofInt 64 1).toNat : Nat) = _
  rw [key, IntKind.wrap_i64]
  omega
theorem i64_and63 (n : Nat) : bits .and .i64 (n : Int) 63 = ((n % 64 : Nat) : Int) := by
  have h1 : (BitVec.ofInt 64 63).toNat = 2 ^ 6 - 1 := by decide
  have key : (BitVec.ofInt 64 (n : Int) &&& BitVec.ofInt 64 63).toNat = ((n : Int) % ((2 ^ 64 : Nat) : Int)).toNat % 2 ^ 6 := by
    rw [BitVec.toNat_and, BitVec.toNat_ofInt, h1, Nat.and_two_pow_sub_one_eq_mod]
  show IntKind.i64.wrap ((BitVec.ofInt 64 (n : Int) &&& BitVec.ofInt 64 63).toNat : Nat) = _
  rw [key, IntKind.wrap_i64]
  omega
/-- Nothing but one block is touched. -/
structure Touch (g : Nat) (w w' : World) : Prop where
  os : w'.os = w.os
  tape : w'.tape = w.tape
  output : w'.output = w.output
  size : w.heap.size ≤ w'.heap.size
  block : ∀ j, j < w.heap.size → j ≠ g → w'.heap[j]? = w.heap[j]?
theorem Touch.refl (g : Nat) (w : World) : Touch g w w := ⟨rfl, rfl, rfl, Nat.le_refl _, fun _ _ _ => rfl⟩
theorem Touch.trans {g : Nat} {a b c : World} (h : Touch g a b) (k : Touch g b c) : Touch g a c :=
  ⟨k.os.trans h.os, k.tape.trans h.tape, k.output.trans h.output, Nat.le_trans h.size k.size, fun j hj hne => (k.block j (Nat.lt_of_lt_of_le hj h.size) hne).trans (h.block j hj hne)⟩
theorem Touch.of_below {g : Nat} {w w' : World} (h : Below w.heap.size w w') : Touch g w w' := ⟨h.os, h.tape, h.output, h.size, fun j hj _ => h.block j hj⟩
theorem Touch.drew {g : Nat} {a w : World} (h : Touch g a w) : Touch g a w.drew := ⟨h.os, h.tape, h.output, h.size, h.block⟩
theorem Touch.setRow {g : Nat} {a w : World} (h : Touch g a w) (cs : Array Value) : Touch g a (w.setRow g cs) :=
  ⟨h.os, h.tape, h.output, by simpa using h.size, fun j hj hne => (setRow_other _ _ _ _ hne).trans (h.block j hj hne)⟩
theorem Touch.setCell {g i : Nat} {a w : World} (h : Touch g a w) (v : Value) : Touch g a (w.setCell ⟨g, i, none⟩ v) :=
  ⟨h.os, h.tape, h.output, by simpa [World.setCell] using h.size, fun j hj hne => (heap_setCell_other _ _ _ _ hne).trans (h.block j hj hne)⟩
/-- A hasher that the caller made itself: nothing older has turned. -/
theorem Touch.below {g B : Nat} {a w : World} (h : Touch g a w) (hB : B ≤ g) (hs : B ≤ a.heap.size) : Below B a w :=
  ⟨h.os, h.tape, h.output, h.size, fun j hj => h.block j (by omega) (by omega)⟩
/-- The tables of digits. -/
structure Tx (w : World) : Prop where
  sz : 4 < w.heap.size
  a : ∀ j, j < 16 → w.cell? ⟨1, j, none⟩ = some (.int .u8 ((g16 j : Nat) : Int))
  b : ∀ j, j < 32 → w.cell? ⟨0, j, none⟩ = some (.int .u8 ((g32 j : Nat) : Int))
theorem Tx.keep {w w' : World} (h : Tx w) (hs : w.heap.size ≤ w'.heap.size) (hb : ∀ j, j < 5 → w'.heap[j]? = w.heap[j]?) : Tx w' :=
  ⟨Nat.lt_of_lt_of_le h.sz hs, fun j hj => (World.cell?_of_block (w := w) (hb 1 (by omega))).trans (h.a j hj), fun j hj => (World.cell?_of_block (w := w) (hb 0 (by omega))).trans (h.b j hj)⟩
theorem Tx.below {w w' : World} {B : Nat} (h : Tx w) (hb : Below B w w') (hB : 4 < B) : Tx w' := h.keep hb.size (fun j hj => hb.block j (by omega))
/-- A list of bytes as a text. -/
def txt (l : List Nat) : Value := .string (strOfNums (l.map (fun (x : Nat) => (x : Int))))
theorem conv_byl {w : World} {v : Value} {l : List Nat} (h : Byl v l w) (dst : TypeId) (hd : Tryd.prog.underlying dst = some .string) : (convert 23 dst v).run Tryd.prog w = .ok (txt l) w := by
  rcases h with ⟨rfl, rfl⟩ | ⟨b, off, cap, rfl, h2, h3, h5, h6⟩
  · exact run_convert_bytes_nil w 23 5 Tryd.underlying23 Tryd.underlying5 0 0 dst hd
  · refine run_convert_bytes_arg w 23 5 Tryd.underlying23 Tryd.underlying5 b off l.length cap (l.map (fun (x : Nat) => (x : Int))) (by rw [List.length_map]) (fun i hi => ?_) dst hd
    rw [h6 i hi]
    simp [List.getD, hi]
theorem conv_own {w : World} {base n : Nat} {v : Value} {l : List Nat} (h : w.ownsRow base 5 1 v n (bs l).toList) : (convert 23 9 v).run Tryd.prog w = .ok (txt l) w := conv_byl (byl_own h).1 9 Tryd.underlying9
end Go.Proofs.YtceclpabdfncoaaDoor
