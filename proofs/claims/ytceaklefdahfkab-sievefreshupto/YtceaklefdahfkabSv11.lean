/- The sieve's table: rows appended, slices made. -/
import Derived.Test.YtceaklefdahfkabSv10
namespace Go.Proofs.Ytceaklefdahfkab
open Go.RowKit
set_option maxRecDepth 100000 in
theorem info118 : (Try.prog.info? 121).map (fun i => (i.zero, i.size, i.bytes)) = some (some (.agg (ik .i32 (List.replicate 256 0))), 256, 1024) := by kernel_rfl
/-- Rows, one behind the other. -/
def rwc (R : List (List Nat)) : List Value := R.flatMap fun r => (ik .i32 r).toList
theorem rwc_snoc (R : List (List Nat)) (r : List Nat) : rwc (R ++ [r]) = rwc R ++ (ik .i32 r).toList := by simp [rwc]
def apR (ty : Nat) (vs : Array Value) : Sem Value := Builtin.append_ #[98, 98] ty vs
theorem toApR (ty : Nat) (vs : Array Value) : Builtin.append_ #[98, 98] ty vs = apR ty vs := rfl
set_option maxRecDepth 100000 in
/-- One row appended. -/
theorem run_apR (w : World) (base n ty : Nat) (v : Value) (R : List (List Nat)) (r : List Nat) (hr : r.length = 256) (hown : w.ownsRow base 121 256 v n (rwc R)) (hb : n ≤ 1048576) (hbase : base ≤ w.heap.size) :
    ∃ v' w', (apR ty #[v, .slice (some ⟨w.heap.size, 0, none⟩) 1 1]).run Try.prog (w.alloc (.cells (ik .i32 r) 121)) = .ok v' w' ∧ w'.ownsRow base 121 256 v' (n + 1) (rwc (R ++ [r])) ∧ (w.alloc (.cells (ik .i32 r) 121)).grownBy w' v.ownBlock ∧ (v'.ownBlock = v.ownBlock ∨ v'.ownBlock = some (w.heap.size + 1)) := by
  obtain ⟨i0, hi0, hz0, hz1, hz2⟩ := info_parts info118
  obtain ⟨v', w', hr, ho, hg, _, hat⟩ := run_append_own_at (P := Try.prog) (w.alloc (.cells (ik .i32 r) 121)) base 98 ty 121 i0 _ 256 1024 (by kernel_rfl) hi0 hz0 hz1 hz2 (by show (ik .i32 (List.replicate 256 0)).size = 256; rw [ik_size, List.length_replicate]) (by omega) v n _ (hown.alloc _) ⟨w.heap.size, 0, none⟩ 1 1 (ik .i32 r).toList (by simp [ik, hr])
    (World.news_of_block (cs := ik .i32 r) (t := 121) (fr := (0, 0)) (heap_alloc_new w _)) (fun u hu => by simp [ik] at hu; obtain ⟨_, _, rfl⟩ := hu; rfl) (by unfold maxLen; omega) (by omega) (by simp; omega)
  refine ⟨v', w', hr, ?_, hg, ?_⟩
  · rw [rwc_snoc]; exact ho
  · rcases hat with hat | hat
    · exact .inl hat
    · exact .inr (by rw [hat]; simp)
def mkF (l c : Value) : Sem Value := Instr.makeSlice 97 l c
theorem toMkF (l c : Value) : Instr.makeSlice 97 l c = mkF l c := rfl
set_option maxRecDepth 100000 in
/-- make([]int32, n). -/
theorem run_mkF (w : World) (n : Nat) (hn : n ≤ 1099511627776) : ∃ w', (mkF (.int .i64 (n : Int)) (.int .i64 (n : Int))).run Try.prog w = .ok (.slice (some ⟨w.heap.size, 0, none⟩) n n) w' ∧ w'.heap[w.heap.size]? = some (.cells (ik .i32 (List.replicate n 0)) 21 (0, 0)) ∧ Below w.heap.size w w' ∧ w'.heap.size = w.heap.size + 1 := by
  obtain ⟨i0, hi0, hz0, hz1, hz2⟩ := info_parts info21
  have hr := run_make (P := Try.prog) w 97 21 i0 _ (by kernel_rfl) hi0 hz0 .i64 .i64 n n (by omega) (Int.le_refl _) (by rw [hz2]; omega) (by omega)
  simp only [Int.toNat_natCast] at hr
  refine ⟨_, hr, ?_, (Below.refl _ w).alloc (Nat.le_refl _) _, by simp⟩
  rw [heap_alloc_new, hz1, Nat.mul_one]
  congr 2
  apply Array.ext'
  have : (Value.int IntKind.i32 0).cells = #[Value.int .i32 0] := rfl
  rw [this, toList_madeCells_one]
  simp [ik]
def mkR (l c : Value) : Sem Value := Instr.makeSlice 98 l c
theorem toMkR (l c : Value) : Instr.makeSlice 98 l c = mkR l c := rfl
set_option maxRecDepth 100000 in
/-- make([][256]int32, 0, c). -/
theorem run_mkR (w : World) (c base : Nat) (hc : c ≤ 1048576) (hb : base ≤ w.heap.size) : ∃ w', (mkR (.int .i64 0) (.int .i64 (c : Int))).run Try.prog w = .ok (.slice (some ⟨w.heap.size, 0, none⟩) 0 c) w' ∧ w'.ownsRow base 121 256 (.slice (some ⟨w.heap.size, 0, none⟩) 0 c) 0 (rwc []) ∧ Below w.heap.size w w' ∧ w'.heap.size = w.heap.size + 1 := by
  obtain ⟨i0, hi0, hz0, hz1, hz2⟩ := info_parts info118
  have hr := run_make (P := Try.prog) w 98 121 i0 _ (by kernel_rfl) hi0 hz0 .i64 .i64 0 c (by omega) (by omega) (by rw [hz2]; omega) (by omega)
  simp only [Int.toNat_natCast, Int.toNat_zero] at hr
  refine ⟨_, hr, ⟨rfl, .inr ⟨w.heap.size, c, madeCells (ik .i32 (List.replicate 256 0)) (c * 256), rfl, hb, ?_, by omega, by unfold maxLen; omega, ?_, by rw [Nat.zero_mul]; rfl⟩⟩, (Below.refl _ w).alloc (Nat.le_refl _) _, by simp⟩
  · rw [heap_alloc_new, hz1]; rfl
  · simp [madeCells]
end Go.Proofs.Ytceaklefdahfkab
