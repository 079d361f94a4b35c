/- Graphs reduced: what is done with sets. -/
import Derived.Test.YtagfkgedfjlnkaaGlH
import Derived.Lib.SliceRun
namespace Go.Proofs.Ytagfkgedfjlnkaa
open Go.RowKit GM Gl
set_option maxRecDepth 100000 in
theorem info51 : (Try.prog.info? 51).map (fun i => (i.zero, i.size, i.bytes)) = some (some (.agg (uw (List.replicate 16 0))), 16, 128) := by kernel_rfl
theorem size51 : (Try.prog.info? 51).map (·.size) = some 16 := by
  have := congrArg (Option.map fun p : Option Value × Nat × Nat => p.2.1) info51
  simpa using this
def mkM (l c : Value) : Sem Value := Instr.makeSlice 48 l c
theorem toMkM (l c : Value) : Instr.makeSlice 48 l c = mkM l c := rfl
def ldM (p : Value) : Sem Value := Instr.loadAt 51 p
theorem toLdM (p : Value) : Instr.loadAt 51 p = ldM p := rfl
def stM (p v : Value) : Sem Unit := Instr.storeAt 51 p v
theorem toStM (p v : Value) : Instr.storeAt 51 p v = stM p v := rfl
def clF (ty : Nat) (vs : Array Value) : Sem Value := Builtin.clear_ #[52] ty vs
theorem toClF (ty : Nat) (vs : Array Value) : Builtin.clear_ #[52] ty vs = clF ty vs := rfl
theorem uw_one (l : List Nat) : (uw l).all (·.oneCell') = true := by
  rw [Array.all_eq_true_iff_forall_mem]
  intro x hx
  simp [uw] at hx
  obtain ⟨n, -, rfl⟩ := hx
  rfl
set_option maxRecDepth 1000000 in
theorem run_mkM (w : World) (n : Nat) (hn : n ≤ 1048576) : ∃ w', (mkM (.int .i64 (n : Int)) (.int .i64 (n : Int))).run Try.prog w = .ok (.slice (some ⟨w.heap.size, 0, none⟩) n n) w' ∧ Mw w.heap.size n (fun _ => List.replicate 16 0) w' ∧ Below w.heap.size w w' := by
  obtain ⟨i0, hi0, hz0, hz1, hz2⟩ := info_parts info51
  have hr := run_make (P := Try.prog) w 48 51 i0 _ (by kernel_rfl) hi0 hz0 .i64 .i64 n n (by omega) (Int.le_refl _) (by rw [hz2]; omega) (by omega)
  simp only [Int.toNat_natCast] at hr
  refine ⟨_, hr, ⟨_, heap_alloc_new _ _, ?_, fun j hj i hi => ?_⟩, (Below.refl _ w).alloc (Nat.le_refl _) _⟩
  · rw [hz1, size_madeCells]
  · have e : (Value.agg (uw (List.replicate 16 0))).cells = uw (List.replicate 16 0) := rfl
    rw [hz1, e]
    unfold madeCells
    rw [Array.getElem?_map, Array.getElem?_range, if_pos (by omega)]
    have z : (List.replicate 16 0).getD i 0 = 0 := by
      rw [List.getD_eq_getElem?_getD, List.getElem?_replicate]
      split <;> rfl
    rw [z, uw_size, List.length_replicate]
    simp only [Option.map_some]
    congr 1
    have hm : (j * 16 + i) % 16 = i := by omega
    rw [hm]
    have hu := uw_get (List.replicate 16 0) i (by simpa using hi)
    rw [z] at hu
    rw [getElem!_def, hu]
theorem ld_M (w : World) (g : Nat) (A : List Nat) (hA : A.length = 16) (h : w.heap[g]? = some (.cells (uw A) 51 (0, 0))) : (ldM (.pointer (some ⟨g, 0, none⟩))).run Try.prog w = .ok (.agg (uw A)) w := by
  unfold ldM
  simp only [Instr.loadAt, Instr.sureAddr, Sem.run_bind, Sem.run_pure, Result.andThen_ok, run_loadVar_row w g 51 51 (uw A) (0, 0) _ h Try.underlying51 rfl (by rw [size51, uw_size, hA])]
theorem st_M (w : World) (gB N a : Nat) (G : Nat → List Nat) (A : List Nat) (hA : A.length = 16) (h : Mw gB N G w) (ha : a < N) : (stM (.pointer (some ⟨gB, a * 16, none⟩)) (.agg (uw A))).run Try.prog w = .ok () (w.setCells gB (a * 16) (uw A).toList) := by
  unfold stM
  refine run_storeAt_mid w gB (a * 16) 51 (uw A) (fun j hj => ?_) (by rw [size51, uw_size, hA]) (uw_one A)
  rw [uw_size, hA] at hj
  obtain ⟨h1, h2⟩ := h.get a j ha hj
  exact ⟨by rw [h1]; rfl, h2⟩
theorem setCells_rest (b : Nat) : ∀ (vs : List Value) (o : Nat) (w : World), (w.setCells b o vs).heap.size = w.heap.size ∧ (w.setCells b o vs).os = w.os ∧ (w.setCells b o vs).tape = w.tape ∧ (w.setCells b o vs).output = w.output
  | [], _, _ => ⟨rfl, rfl, rfl, rfl⟩
  | v :: r, o, w => by
    rw [World.setCells]
    obtain ⟨h1, h2, h3, h4⟩ := setCells_rest b r (o + 1) (w.setCell ⟨b, o, none⟩ v)
    exact ⟨h1.trans (by simp), h2, h3, h4⟩
set_option maxRecDepth 100000 in
theorem zero49 (w : World) : (zeroValue 49).run Try.prog w = .ok (.int .u64 0) w := by kernel_rfl
theorem cl_F (w : World) (g ty : Nat) (A : List Nat) (hA : A.length = 16) (h : w.heap[g]? = some (.cells (uw A) 51 (0, 0))) : ∃ X, (clF ty #[.slice (some ⟨g, 0, none⟩) 16 16]).run Try.prog w = .ok (.tuple #[]) X ∧ Jn g (List.replicate 16 0) w X := by
  have hc : ∀ j, j < 16 → (w.cell? ⟨g, 0 + j, none⟩).isSome = true := fun j hj => by
    rw [cell_of_row w g _ _ _ _ h, uw_get A (0 + j) (by omega)]
    rfl
  have hr := Lib.run_clear_slice (P := Try.prog) w 52 49 ty (.int .u64 0) Try.underlying52 zero49 rfl rfl g 0 16 16 (by omega) hc (fun j _ => frozen_of_row w _ _ _ _ h)
  obtain ⟨vs, hvs⟩ : ∃ vs, vs = List.replicate 16 (Value.int .u64 0) := ⟨_, rfl⟩
  obtain ⟨Z, hZ⟩ : ∃ Z, Z = List.replicate 16 0 := ⟨_, rfl⟩
  have lv : vs.length = 16 := by rw [hvs, List.length_replicate]
  have lz : Z.length = 16 := by rw [hZ, List.length_replicate]
  have gv : ∀ k, k < 16 → vs[k]? = some (.int .u64 0) := fun k hk => by rw [hvs, List.getElem?_replicate, if_pos hk]
  have gz : ∀ k, Z.getD k 0 = 0 := fun k => by
    rw [hZ, List.getD_eq_getElem?_getD, List.getElem?_replicate]
    split <;> rfl
  rw [← hvs] at hr
  rw [← hZ]
  clear hvs hZ
  have row : (w.setCells g 0 vs).heap[g]? = some (.cells (uw Z) 51 (0, 0)) := by
    rw [heap_setCells_same vs w g 0 (uw A) 51 h]
    have e : setL (uw A) 0 vs = uw Z := by
      apply Array.ext_getElem?
      intro k
      by_cases hk : k < 16
      · have := setL_in vs (uw A) 0 k (by rw [uw_size, hA, lv]; omega) (by omega)
        rw [Nat.zero_add] at this
        rw [this, gv k hk, uw_get Z k (by omega), gz k]
        rfl
      · rw [Array.getElem?_eq_none (by rw [setL_size, uw_size]; omega), Array.getElem?_eq_none (by rw [uw_size]; omega)]
    rw [e]
  obtain ⟨sz, so, st, su⟩ := setCells_rest g vs 0 w
  refine ⟨_, hr, so, st, su, sz, fun k hk => ?_, row⟩
  · by_cases q : k < w.heap.size
    · exact World.heap_setCells_other _ _ _ _ q hk
    · rw [Array.getElem?_eq_none (by rw [sz]; omega), Array.getElem?_eq_none (by omega)]
end Go.Proofs.Ytagfkgedfjlnkaa
