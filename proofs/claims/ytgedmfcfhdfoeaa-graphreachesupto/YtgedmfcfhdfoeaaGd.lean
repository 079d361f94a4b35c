/- Graphs: edges appended; roomy. -/
import Derived.Test.YtgedmfcfhdfoeaaGc
namespace Go.Proofs.Ytgedmfcfhdfoeaa
open Go.RowKit
/-- Edges as cells. -/
def ec (l : List (Int × Int)) : List Value := l.flatMap fun e => [.int .i64 e.1, .int .i64 e.2]
theorem ec_app (a b : List (Int × Int)) : ec (a ++ b) = ec a ++ ec b := by simp [ec]
theorem ec_len : ∀ l : List (Int × Int), (ec l).length = l.length * 2
  | [] => rfl
  | x :: r => by
    have : ec (x :: r) = .int .i64 x.1 :: .int .i64 x.2 :: ec r := rfl
    rw [this, List.length_cons, List.length_cons, ec_len r, List.length_cons]
    omega
theorem ec_get : ∀ (l : List (Int × Int)) (j : Nat), j < l.length → (ec l)[j * 2]? = some (.int .i64 (l.getD j (0, 0)).1) ∧ (ec l)[j * 2 + 1]? = some (.int .i64 (l.getD j (0, 0)).2)
  | x :: r, 0, _ => ⟨rfl, rfl⟩
  | x :: r, j + 1, h => by
    have := ec_get r j (by simpa using h)
    have e : ec (x :: r) = .int .i64 x.1 :: .int .i64 x.2 :: ec r := rfl
    rw [e, show (j + 1) * 2 = j * 2 + 1 + 1 by omega, show (j * 2 + 1 + 1 + 1) = (j * 2 + 1) + 1 + 1 by omega]
    simp only [List.getElem?_cons_succ, List.getD_cons_succ]
    exact this
theorem ec_one (l : List (Int × Int)) : ∀ u ∈ ec l, u.oneCell' = true := by
  intro u hu
  unfold ec at hu
  rw [List.mem_flatMap] at hu
  obtain ⟨x, _, h⟩ := hu
  simp at h
  rcases h with rfl | rfl <;> rfl
/-- A list of edges of one's own, read. -/
theorem el_own {w : World} {B n : Nat} {v : Value} {l : List (Int × Int)} (h : w.ownsRow B 52 2 v n (ec l)) : n = l.length ∧ El v l w := by
  obtain ⟨h0, h1⟩ := h
  rw [ec_len] at h0
  have hn : n = l.length := by omega
  subst hn
  refine ⟨rfl, ?_⟩
  rcases h1 with ⟨rfl, h1⟩ | ⟨g, cap, cur, rfl, hB, hg, hnc, hcm, hcs, htk⟩
  · exact .inl ⟨rfl, List.length_eq_zero_iff.1 h1⟩
  · refine .inr ⟨g, 0, cap, rfl, hnc, hcm, (Array.getElem?_eq_some_iff.1 hg).1, fun j hj => ?_⟩
    have key : ∀ i, i < l.length * 2 → cur[i]? = (ec l)[i]? := fun i hi => by rw [← htk, List.getElem?_take, if_pos hi, Array.getElem?_toList]
    have := ec_get l j hj
    rw [Nat.zero_add, cell_of_row w _ _ _ _ _ hg, cell_of_row w _ _ _ _ _ hg, key _ (by omega), key _ (by omega)]
    exact this
def apE (ty : Nat) (vs : Array Value) : Sem Value := Builtin.append_ #[22, 22] ty vs
theorem toApE (ty : Nat) (vs : Array Value) : Builtin.append_ #[22, 22] ty vs = apE ty vs := rfl
theorem grownBy_refl (w : World) (row : Option Nat) : w.grownBy w row := ⟨rfl, rfl, rfl, Nat.le_refl _, fun _ _ _ => rfl⟩
theorem below_grown {B : Nat} {a x y : World} {row : Option Nat} (h : Below B a x) (hg : x.grownBy y row) (hB : B ≤ x.heap.size) (hr : ∀ g, row = some g → B ≤ g) : Below B a y :=
  ⟨hg.os.trans h.os, hg.tape.trans h.tape, hg.output.trans h.output, Nat.le_trans h.size hg.size, fun j hj => (hg.block j (by omega) (fun e => by have := hr j e.symm; omega)).trans (h.block j hj)⟩
/-- A list of edges behind a list of one's own. -/
theorem run_apE (w : World) (base n ty : Nat) (v sv : Value) (l e : List (Int × Int)) (hown : w.ownsRow base 52 2 v n (ec l)) (hs : El sv e w) (hb : n + e.length ≤ 4398046511104) (hbase : base ≤ w.heap.size) :
    ∃ v' w', (apE ty #[v, sv]).run Try.prog w = .ok v' w' ∧ w'.ownsRow base 52 2 v' (n + e.length) (ec (l ++ e)) ∧ w.grownBy w' v.ownBlock := by
  obtain ⟨i0, hi0, hz0, hz1, hz2⟩ := info_parts info53
  rcases hs with ⟨rfl, rfl⟩ | ⟨b, off, cap, rfl, h1, h2, h3, h4⟩
  · refine ⟨v, w, run_append_owned_none (P := Try.prog) (w := w) base 22 ty 52 i0 2 Try.underlying22 hi0 v n _ hown, ?_, grownBy_refl _ _⟩
    rw [List.append_nil]; exact hown
  · obtain ⟨v', w', hr, ho, hg, _⟩ := run_append_own (P := Try.prog) w base 22 ty 52 i0 _ 2 16 Try.underlying22 hi0 hz0 hz1 hz2 rfl (by omega) v n _ hown ⟨b, off, none⟩ e.length cap (ec e) (ec_len e) (fun j u hu => by
        have hj : j < e.length * 2 := by have := (List.getElem?_eq_some_iff.1 hu).1; rwa [ec_len] at this
        rw [Addr.add_mid]
        have hd := h4 (j / 2) (by omega)
        have he := ec_get e (j / 2) (by omega)
        have : j = j / 2 * 2 ∨ j = j / 2 * 2 + 1 := by omega
        rcases this with h | h
        · rw [h] at hu ⊢
          rw [he.1] at hu
          rw [← hu]; exact hd.1
        · rw [h] at hu ⊢
          rw [he.2] at hu
          rw [← hu, ← Nat.add_assoc]; exact hd.2) (ec_one e) (by unfold maxLen; omega) (by omega) hbase
    refine ⟨v', w', hr, ?_, hg⟩
    rw [ec_app]; exact ho
/-- One edge more. -/
theorem run_apE1 (w : World) (base n ty : Nat) (v : Value) (l : List (Int × Int)) (x y : Int) (hown : w.ownsRow base 52 2 v n (ec l)) (hb : n + 1 ≤ 4398046511104) (hbase : base ≤ w.heap.size) :
    ∃ v' w', (apE ty #[v, .slice (some ⟨w.heap.size, 0, none⟩) 1 1]).run Try.prog (w.alloc (.cells #[.int .i64 x, .int .i64 y] 52)) = .ok v' w' ∧ w'.ownsRow base 52 2 v' (n + 1) (ec (l ++ [(x, y)])) ∧ (w.alloc (.cells #[.int .i64 x, .int .i64 y] 52)).grownBy w' v.ownBlock := by
  have hy : El (.slice (some ⟨w.heap.size, 0, none⟩) 1 1) [(x, y)] (w.alloc (.cells #[.int .i64 x, .int .i64 y] 52)) := by
    refine .inr ⟨w.heap.size, 0, 1, rfl, Nat.le_refl _, by unfold maxLen; omega, by simp, fun j hj => ?_⟩
    have : j = 0 := by simpa using hj
    subst this
    have hr := heap_alloc_new w (.cells #[.int .i64 x, .int .i64 y] 52)
    exact ⟨(cell_of_row _ _ _ _ _ _ hr).trans rfl, (cell_of_row _ _ _ _ _ _ hr).trans rfl⟩
  exact run_apE _ base n ty v _ l [(x, y)] (hown.alloc _) hy hb (by simp; omega)
def slE (v : Value) (lo hi mx : Option Value) : Sem Value := Instr.slice 22 v lo hi mx
theorem toSlE (v : Value) (lo hi mx : Option Value) : Instr.slice 22 v lo hi mx = slE v lo hi mx := rfl
theorem elemE : Try.prog.elem 22 = 52 := by kernel_rfl
theorem uE : Try.prog.underlying 22 = some (.slice (Try.prog.elem 22)) := by rw [elemE]; exact Try.underlying22
theorem run_cutE (w : World) (g o n c k : Nat) (hk : k ≤ c) : (slE (.slice (some ⟨g, o, none⟩) n c) none (some (.int .i64 (k : Int))) none).run Try.prog w = .ok (.slice (some ⟨g, o, none⟩) k c) w := by
  have := run_slice_h (P := Try.prog) w 22 (some ⟨g, o, none⟩) n c uE .i64 (k : Int) (by omega) (by omega)
  obtain ⟨i, hi, _, hs, _⟩ := info_parts info53
  have hz : (sizeOf 52).run Try.prog w = .ok 2 w := by simp [sizeOf, typeInfo, hi, hs]
  unfold slE
  rw [this, elemE, hz]
  simp [Result.andThen, sliced]
  intro _
  rfl
theorem sizeG : (Try.prog.info? 24).map (·.size) = some 2 := by kernel_rfl
theorem underG : Try.prog.underlying 24 = some (.struct (Try.prog.fieldsOf 24)) := by kernel_rfl
theorem run_ldG (w : World) (g : Nat) (a b : Value) (hg : w.heap[g]? = some (.cells #[a, b] 24 (0, 0))) : (loadVar 24 ⟨g, 0, none⟩).run Try.prog w = .ok (.agg #[a, b]) w :=
  run_loadVar_row w g 24 24 #[a, b] (0, 0) _ hg underG rfl (by rw [sizeG]; rfl)
theorem results_tG {fn : Func} {p u : Tmp} (h : fn.results = #[.tmp u, .cell p 24]) (tmps : Array Value) (w : World) (g : Nat) (a b : Value)
    (hp : tmps.getD p undef = .pointer (some ⟨g, 0, none⟩)) (hg : w.heap[g]? = some (.cells #[a, b] 24 (0, 0))) :
    (results fn tmps).run Try.prog w = .ok (.tuple #[tmps.getD u undef, .agg #[a, b]]) w := by
  have hp' : tmps[p]?.getD undef = .pointer (some ⟨g, 0, none⟩) := by simpa using hp
  simp [results, h, hp', asAddr, run_ldG w g a b hg]
theorem results_Gt {fn : Func} {p u : Tmp} (h : fn.results = #[.cell p 24, .tmp u]) (tmps : Array Value) (w : World) (g : Nat) (a b : Value)
    (hp : tmps.getD p undef = .pointer (some ⟨g, 0, none⟩)) (hg : w.heap[g]? = some (.cells #[a, b] 24 (0, 0))) :
    (results fn tmps).run Try.prog w = .ok (.tuple #[.agg #[a, b], tmps.getD u undef]) w := by
  have hp' : tmps[p]?.getD undef = .pointer (some ⟨g, 0, none⟩) := by simpa using hp
  simp [results, h, hp', asAddr, run_ldG w g a b hg]
theorem results_G {fn : Func} {p : Tmp} (h : fn.results = #[.cell p 24]) (tmps : Array Value) (w : World) (g : Nat) (a b : Value)
    (hp : tmps.getD p undef = .pointer (some ⟨g, 0, none⟩)) (hg : w.heap[g]? = some (.cells #[a, b] 24 (0, 0))) :
    (results fn tmps).run Try.prog w = .ok (.agg #[a, b]) w := by
  have hp' : tmps[p]?.getD undef = .pointer (some ⟨g, 0, none⟩) := by simpa using hp
  simp [results, h, hp', asAddr, run_ldG w g a b hg]
theorem set2G {W : World} {g : Nat} {a b : Value} (x y : Value) (h : W.heap[g]? = some (.cells #[a, b] 24 (0, 0))) : ((W.setCell ⟨g, 0, none⟩ x).setCell ⟨g, 1, none⟩ y).heap[g]? = some (.cells #[x, y] 24 (0, 0)) :=
  (heap_setCell_same _ _ _ _ _ _ ((heap_setCell_same _ _ _ _ _ _ h).trans rfl)).trans rfl
theorem set2_other {W : World} {g : Nat} (x y : Value) (k : Nat) (h : k ≠ g) : ((W.setCell ⟨g, 0, none⟩ x).setCell ⟨g, 1, none⟩ y).heap[k]? = W.heap[k]? :=
  (heap_setCell_other _ _ _ _ h).trans (heap_setCell_other _ _ _ _ h)
theorem below_set2 {W w : World} {B g : Nat} (x y : Value) (hB : B ≤ g) (h : Below B w W) : Below B w ((W.setCell ⟨g, 0, none⟩ x).setCell ⟨g, 1, none⟩ y) :=
  ⟨h.os, h.tape, h.output, by simpa [World.setCell] using h.size, fun j hj => (set2_other x y j (by omega)).trans (h.block j hj)⟩
attribute [local go_sem ↓] toApE toSlE
end Go.Proofs.Ytgedmfcfhdfoeaa
