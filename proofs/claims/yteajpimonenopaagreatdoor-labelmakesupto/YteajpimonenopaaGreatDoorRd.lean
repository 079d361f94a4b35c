/- ParseBase and Parse of a text that a label has. -/
import Derived.Test.YteajpimonenopaaGreatDoorRdM
namespace Go.Proofs.YteajpimonenopaaGreatDoor
open Go.RowKit
def z20 : List Nat := List.replicate 20 0
def none25 : Array Value := lab z20 ⟨#[]⟩
set_option maxRecDepth 100000 in
theorem zero25 (w : World) : Sem.run Tryz.prog (zeroValue 30) w = .ok (.agg none25) w := by kernel_rfl
set_option maxRecDepth 100000 in
theorem lab_one (h : List Nat) (s : ByteArray) : (lab h s).all (·.oneCell') = true := by
  simp [lab, bs, Value.oneCell']
set_option maxRecDepth 100000 in
theorem to25s (p v : Value) : Instr.storeAt 30 p v = storeR 30 p v := rfl
set_option maxRecDepth 100000 in
theorem run_storeR25 (w : World) (g : Nat) (h k : List Nat) (s t : ByteArray) (hg : w.heap[g]? = some (.cells (lab h s) 30 (0, 0))) (h1 : h.length = 20) (h2 : k.length = 20) : (storeR 30 (.pointer (some ⟨g, 0, none⟩)) (.agg (lab k t))).run Tryz.prog w = .ok () (w.setRow g (lab k t)) := by
  unfold storeR
  simp only [Instr.storeAt, Instr.sureAddr, Sem.run_bind, Sem.run_pure, Result.andThen_ok, run_storeVar_row w g 30 30 (lab h s) (lab k t) hg (by rw [size25, lab_size k t h2]) (by rw [lab_size k t h2, lab_size h s h1]) (lab_one _ _)]
set_option maxRecDepth 100000 in
theorem results_cell3 {fn : Func} {p u v : Tmp} (h : fn.results = #[.cell p 30, .tmp u, .tmp v]) (tmps : Array Value) (w : World) (g : Nat) (k : List Nat) (t : ByteArray) (hk : k.length = 20)
    (hp : tmps.getD p undef = .pointer (some ⟨g, 0, none⟩)) (hg : w.heap[g]? = some (.cells (lab k t) 30 (0, 0))) :
    (results fn tmps).run Tryz.prog w = .ok (.tuple #[.agg (lab k t), tmps.getD u undef, tmps.getD v undef]) w := by
  have hp' : tmps[p]?.getD undef = .pointer (some ⟨g, 0, none⟩) := by simpa using hp
  simp [results, h, hp', asAddr, run_loadVar_row w g 30 30 (lab k t) (0, 0) _ hg under25 rfl (by rw [size25, lab_size k t hk])]
set_option maxRecDepth 100000 in
theorem run_load23 (w : World) (g : Nat) (h : List Nat) (hg : w.heap[g]? = some (.cells (bs h) 5 (0, 0))) (hl : h.length = 20) : (loadR 28 (.pointer (some ⟨g, 0, none⟩))).run Tryz.prog w = .ok (.agg (bs h)) w :=
  run_loadAt_mid w g 0 28 (h.map fun (b : Nat) => Value.int .u8 (b : Int)) _ (fun j v hv => by
    have hj : j < h.length := by have := (List.getElem?_eq_some_iff.1 hv).1; simpa using this
    rw [Nat.zero_add, cell_of_row w _ _ _ _ _ hg, bs_get _ _ hj]
    simp [hj] at hv
    rw [← hv]
    simp [List.getD, hj]) Tryz.underlying28 rfl (by rw [size23, List.length_map, hl])
set_option maxRecDepth 100000 in
theorem run_arrayAt (w : World) (g : Nat) : (Instr.arrayAt 28 (.slice (some ⟨g, 0, none⟩) 20 20)).run Tryz.prog w = .ok (.pointer (some ⟨g, 0, none⟩)) w := by
  simp [Instr.arrayAt, Sem.run_bind, run_underlying Tryz.underlying28]
set_option maxRecDepth 100000 in
theorem built20 (a0 a1 a2 a3 a4 a5 a6 a7 a8 a9 a10 a11 a12 a13 a14 a15 a16 a17 a18 a19 : Nat) (s : ByteArray) : Tryz.prog.built 30 [(0, .agg (bs [a0, a1, a2, a3, a4, a5, a6, a7, a8, a9, a10, a11, a12, a13, a14, a15, a16, a17, a18, a19])), (1, .string s)] = some (lab [a0, a1, a2, a3, a4, a5, a6, a7, a8, a9, a10, a11, a12, a13, a14, a15, a16, a17, a18, a19] s) := by kernel_rfl
set_option maxRecDepth 100000 in
theorem built_lab (h : List Nat) (hl : h.length = 20) (s : ByteArray) : Tryz.prog.built 30 [(0, .agg (bs h)), (1, .string s)] = some (lab h s) := by
  match h, hl with
  | [a0, a1, a2, a3, a4, a5, a6, a7, a8, a9, a10, a11, a12, a13, a14, a15, a16, a17, a18, a19], _ => exact built20 a0 a1 a2 a3 a4 a5 a6 a7 a8 a9 a10 a11 a12 a13 a14 a15 a16 a17 a18 a19 s
/-- A label put together, kept shut. -/
def buildR (ps : Array (Nat × Value)) : Sem Value := Instr.build 30 ps
set_option maxRecDepth 100000 in
theorem toBuild (ps : Array (Nat × Value)) : Instr.build 30 ps = buildR ps := rfl
set_option maxRecDepth 100000 in
theorem run_buildR (w : World) (h : List Nat) (hl : h.length = 20) (s : ByteArray) : (buildR #[(0, .agg (bs h)), (1, .string s)]).run Tryz.prog w = .ok (.agg (lab h s)) w := run_build w 30 _ _ (built_lab h hl s)
set_option maxRecDepth 100000 in
theorem run_buildX (w : World) (s : ByteArray) : (buildR #[(1, .string s)]).run Tryz.prog w = .ok (.agg (lab z20 s)) w := run_build w 30 _ _ (by kernel_rfl)
attribute [local go_sem] zero25
attribute [local go_sem ↓] to25s to25l to23l toBuild
set_option maxRecDepth 100000 in
theorem byt_app (a b : ByteArray) (i : Nat) (h : i < a.size) : byt (a ++ b) i = byt a i := by
  have h1 : i < (a ++ b).size := by rw [ByteArray.size_append]; omega
  rw [← byt_at (a ++ b) i h1, ← byt_at a i h]
  congr 1
  show ((a ++ b).data[i]'h1) = a.data[i]'h
  simp only [ByteArray.data_append]
  exact Array.getElem_append_left h
end Go.Proofs.YteajpimonenopaaGreatDoor
