/- The journal's rows: the law's grown: the steps and one more. -/
import Derived.Test.YtfimaflglnemdaaDoorJuW
import Derived.ArgAppend
namespace Go.Proofs.YtfimaflglnemdaaDoor
open Go.RowKit
open JM
set_option maxRecDepth 20000
def slS (v : Value) (lo hi mx : Option Value) : Sem Value := Instr.slice 33 v lo hi mx
theorem toSlS (v : Value) (lo hi mx : Option Value) : Instr.slice 33 v lo hi mx = slS v lo hi mx := rfl
def apS (ty : Nat) (vs : Array Value) : Sem Value := Builtin.append_ #[33, 33] ty vs
theorem toApS (ty : Nat) (vs : Array Value) : Builtin.append_ #[33, 33] ty vs = apS ty vs := rfl
theorem elemS : Tryd.prog.elem 33 = 32 := by kernel_rfl
theorem uS : Tryd.prog.underlying 33 = some (.slice (Tryd.prog.elem 33)) := by kernel_rfl
theorem infoS : (Tryd.prog.info? 32).map (fun i => (i.zero, i.size, i.bytes)) = some (some (.agg #[.bool false, .slice none 0 0]), 2, 32) := by kernel_rfl
theorem run_sizeS (w : World) : (sizeOf 32).run Tryd.prog w = .ok 2 w := by
  obtain ⟨i0, hi0, hz0, hz1, hz2⟩ := info_parts infoS
  simp [sizeOf, typeInfo, hi0, hz1]
theorem sl_h (w : World) (g o n c : Nat) (h : Nat) (hc : h ≤ c) : (slS (.slice (some ⟨g, o, none⟩) n c) none (some (.int .i64 (h : Int))) none).run Tryd.prog w = .ok (.slice (some ⟨g, o, none⟩) h c) w := by
  have := run_slice_h (P := Tryd.prog) w 33 (some ⟨g, o, none⟩) n c uS .i64 (h : Int) (by omega) (by omega)
  unfold slS
  rw [this, elemS, run_sizeS]
  simp [Result.andThen, sliced, Addr.add_mid]
theorem sl_hm (w : World) (oa : Option Addr) (n c : Nat) (hc : n ≤ c) (ho : 0 < n → ∃ g o, oa = some ⟨g, o, none⟩) : (slS (.slice oa n c) none (some (.int .i64 (n : Int))) (some (.int .i64 (n : Int)))).run Tryd.prog w = .ok (.slice oa n n) w := by
  have := run_slice_hm (P := Tryd.prog) w 33 oa n c uS .i64 .i64 (n : Int) (n : Int) (by omega) (by omega) (by omega)
  unfold slS
  rw [this, elemS, run_sizeS]
  by_cases h : n = 0
  · subst h
    simp [Result.andThen, sliced]
  · obtain ⟨g, o, rfl⟩ := ho (by omega)
    simp [Result.andThen, sliced, Addr.add_mid]
/-- The cells of steps. -/
def scs (W : World) (g o : Nat) : Nat → List Value
  | 0 => []
  | n + 1 => scs W g o n ++ [(W.cell? ⟨g, o + n * 2, none⟩).getD undef, (W.cell? ⟨g, o + (n * 2 + 1), none⟩).getD undef]
theorem scs_len (W : World) (g o : Nat) : ∀ n, (scs W g o n).length = n * 2
  | 0 => rfl
  | n + 1 => by rw [scs, List.length_append, scs_len W g o n]; simp; omega
theorem scs_get (W : World) (g o : Nat) : ∀ (n j : Nat), j < n * 2 → (scs W g o n)[j]? = some ((W.cell? ⟨g, o + j, none⟩).getD undef)
  | 0, j, h => by omega
  | n + 1, j, h => by
    rw [scs]
    by_cases hj : j < n * 2
    · rw [List.getElem?_append_left (by rw [scs_len]; exact hj), scs_get W g o n j hj]
    · rw [List.getElem?_append_right (by rw [scs_len]; omega), scs_len]
      obtain rfl | rfl : j = n * 2 ∨ j = n * 2 + 1 := by omega
      · rw [Nat.sub_self]; rfl
      · rw [Nat.add_sub_cancel_left]; rfl
theorem Ss.cells {W : World} {oa : Option Addr} {cap n : Nat} {ss : List (Bool × List (List Nat))} (h : Ss W (.slice oa n cap) ss) {g o : Nat} (he : oa = some ⟨g, o, none⟩) : ∀ j, j < ss.length * 2 → ∃ u, W.cell? ⟨g, o + j, none⟩ = some u := fun j hj => by
  obtain ⟨oa', cap', e, h2, h3, h4⟩ := h
  injection e with e1 e2 e3
  subst e1
  obtain ⟨g', o', x, e, c1, c2, _⟩ := h4 (j / 2) (by omega)
  rw [he] at e
  injection e with e
  injection e with eg eo _
  subst eg eo
  rcases Nat.mod_two_eq_zero_or_one j with m | m
  · exact ⟨_, by rw [show o + j = o + j / 2 * 2 by omega]; exact c1⟩
  · exact ⟨_, by rw [show o + j = o + j / 2 * 2 + 1 by omega]; exact c2⟩
/-- A step more. -/
theorem app_steps {W A : World} {oa : Option Addr} {c0 : Nat} {ss : List (Bool × List (List Nat))} (hS : Ss W (.slice oa ss.length c0) ss) (hn : ss.length ≤ 1000000) (hb : Below W.heap.size W A) {k : Nat} {x : Value} {ls : List (List Nat)} (k0 : A.cell? ⟨k, 0, none⟩ = some (.bool false)) (k1 : A.cell? ⟨k, 1, none⟩ = some x) (hx : Lr A x ls) (hxl : ∀ y ∈ ls, y.length ≤ LIM) :
    ∃ g c w', (apS 33 #[.slice oa ss.length ss.length, .slice (some ⟨k, 0, none⟩) 1 1]).run Tryd.prog A = .ok (.slice (some ⟨g, 0, none⟩) (ss.length + 1) c) w' ∧ Ss w' (.slice (some ⟨g, 0, none⟩) (ss.length + 1) c) (ss ++ [(false, ls)]) ∧ Below A.heap.size A w' := by
  obtain ⟨i0, hi0, hz0, hz1, hz2⟩ := info_parts infoS
  obtain ⟨ox, cx, rfl⟩ := hx.sl
  have hnew : ∀ (j : Nat) (u : Value), ([.bool false, .slice ox ls.length cx] : List Value)[j]? = some u → A.cell? ((⟨k, 0, none⟩ : Addr).add j) = some u := fun j u hu => by
    rw [Addr.add_lit, Nat.zero_add]
    match j, hu with
    | 0, hu => injection hu with hu; subst hu; exact k0
    | 1, hu => injection hu with hu; subst hu; exact k1
  have key : ∃ olds v' w', (apS 33 #[.slice oa ss.length ss.length, .slice (some ⟨k, 0, none⟩) 1 1]).run Tryd.prog A = .ok v' w' ∧ w'.ownsRow A.heap.size 32 2 v' (ss.length + 1) (olds ++ [.bool false, .slice ox ls.length cx]) ∧ A.grownBy w' none ∧ olds.length = ss.length * 2 ∧ ∀ j, j < ss.length * 2 → ∀ g o, oa = some ⟨g, o, none⟩ → olds[j]? = W.cell? ⟨g, o + j, none⟩ := by
    by_cases h0 : ss.length = 0
    · cases oa with
      | none =>
        rw [h0]
        obtain ⟨v', w', r1, r2, r3, -, -⟩ := run_append_own_at (P := Tryd.prog) A A.heap.size 33 33 32 i0 _ 2 32 Tryd.underlying33 hi0 hz0 hz1 hz2 rfl (by omega) (.slice none 0 0) 0 [] (World.ownsRow_nil _ _ _ _) ⟨k, 0, none⟩ 1 1 [.bool false, .slice ox ls.length cx] rfl hnew (fun y hy => by
          simp only [List.mem_cons, List.not_mem_nil, or_false] at hy
          rcases hy with rfl | rfl <;> rfl) (by unfold maxLen; omega) (by omega) (Nat.le_refl _)
        exact ⟨[], v', w', r1, r2, r3, rfl, fun j hj => by omega⟩
      | some b =>
        rw [h0]
        obtain ⟨v', w', r1, r2, r3⟩ := run_append_arg_grows (P := Tryd.prog) A 33 33 32 i0 _ 2 32 Tryd.underlying33 hi0 hz0 hz1 hz2 rfl (by omega) b 0 0 [] rfl (fun j u hu => by simp at hu) ⟨k, 0, none⟩ 1 1 [.bool false, .slice ox ls.length cx] rfl hnew (by omega) (by unfold maxLen; omega) (by omega)
        exact ⟨[], v', w', r1, r2, r3, rfl, fun j hj => by omega⟩
    · obtain ⟨oa', cap', e, h2, h3, h4⟩ := id hS
      injection e with e1 _ e3
      obtain ⟨g, o, x, rfl, _⟩ := h4 0 (by omega)
      subst e1
      have hcs := hS.cells rfl
      obtain ⟨v', w', r1, r2, r3⟩ := run_append_arg_grows (P := Tryd.prog) A 33 33 32 i0 _ 2 32 Tryd.underlying33 hi0 hz0 hz1 hz2 rfl (by omega) ⟨g, o, none⟩ ss.length ss.length (scs W g o ss.length) (scs_len ..) (fun j u hu => by
        have hj : j < ss.length * 2 := by have := (List.getElem?_eq_some_iff.1 hu).1; rwa [scs_len] at this
        rw [scs_get _ _ _ _ _ hj] at hu
        obtain ⟨y, hy⟩ := hcs j hj
        rw [Addr.add_lit, cell_below hb hy]
        rw [hy] at hu
        exact hu) ⟨k, 0, none⟩ 1 1 [.bool false, .slice ox ls.length cx] rfl hnew (by omega) (by unfold maxLen; omega) (by omega)
      refine ⟨_, v', w', r1, r2, r3, scs_len .., fun j hj g' o' e' => ?_⟩
      injection e' with e'
      injection e' with eg eo _
      subst eg eo
      obtain ⟨y, hy⟩ := hcs j hj
      rw [scs_get _ _ _ _ _ hj, hy]
      rfl
  obtain ⟨olds, v', w', r1, r2, r3, r4, r5⟩ := key
  have bA : Below A.heap.size A w' := ⟨r3.os, r3.tape, r3.output, r3.size, fun j hj => r3.block j hj (by simp)⟩
  rcases r2.2 with ⟨_, h⟩ | ⟨g, c, cur, rfl, _, hr, h5, h6, _, h8⟩
  · omega
  have hcell : ∀ j, j < (ss.length + 1) * 2 → w'.cell? ⟨g, j, none⟩ = (olds ++ [.bool false, .slice ox ls.length cx])[j]? := fun j hj => by
    rw [cell_of_row _ _ _ _ _ _ hr, ← h8, List.getElem?_take, if_pos hj, Array.getElem?_toList]
  have hcap : ss.length + 1 ≤ c ∧ c ≤ maxLen := ⟨h5, h6⟩
  refine ⟨g, c, w', r1, ⟨_, _, by rw [List.length_append]; rfl, by rw [List.length_append]; exact hcap.1, hcap.2, fun i hi => ?_⟩, bA⟩
  rw [List.length_append, List.length_singleton] at hi
  by_cases hlt : i < ss.length
  · obtain ⟨oa', cap', e, h2, h3, h4⟩ := hS
    injection e with e1 _ e3
    subst e1
    obtain ⟨g', o', y, e, c1, c2, c3, c4⟩ := h4 i hlt
    have hg : (ss ++ [(false, ls)])[i]'(by rw [List.length_append]; exact Nat.lt_of_lt_of_le hlt (Nat.le_add_right _ _)) = ss[i] := List.getElem_append_left hlt
    rw [hg]
    refine ⟨g, 0, y, rfl, ?_, ?_, (c3.below hb).below bA, c4⟩
    · rw [Nat.zero_add, hcell _ (by omega), List.getElem?_append_left (by rw [r4]; omega), r5 _ (by omega) g' o' e, c1]
    · rw [Nat.zero_add, hcell _ (by omega), List.getElem?_append_left (by rw [r4]; omega), r5 _ (by omega) g' o' e, ← Nat.add_assoc, c2]
  · obtain rfl : i = ss.length := by omega
    have hg : (ss ++ [(false, ls)])[ss.length]'(by simp) = (false, ls) := by simp
    rw [hg]
    refine ⟨g, 0, .slice ox ls.length cx, rfl, ?_, ?_, hx.below bA, hxl⟩
    · rw [Nat.zero_add, hcell _ (by omega), List.getElem?_append_right (by omega), r4, Nat.sub_self]; rfl
    · rw [Nat.zero_add, hcell _ (by omega), List.getElem?_append_right (by omega), r4, Nat.add_sub_cancel_left]; rfl
/-- The step that is added. -/
def three : List (List Nat) := [[7], [], [8, 9]]
theorem Ss.take {W : World} {oa : Option Addr} {c : Nat} {ss : List (Bool × List (List Nat))} (h : Ss W (.slice oa ss.length c) ss) (n : Nat) (hn : n ≤ ss.length) : Ss W (.slice oa n c) (ss.take n) := by
  obtain ⟨oa', cap', e, h2, h3, h4⟩ := h
  injection e with e1 _ e3
  subst e1 e3
  have hl : (ss.take n).length = n := by rw [List.length_take]; omega
  refine ⟨oa, c, by rw [hl], by omega, h3, fun i hi => ?_⟩
  have he : (ss.take n)[i] = ss[i]'(by omega) := List.getElem_take
  rw [he]
  exact h4 i (by omega)
end Go.Proofs.YtfimaflglnemdaaDoor
