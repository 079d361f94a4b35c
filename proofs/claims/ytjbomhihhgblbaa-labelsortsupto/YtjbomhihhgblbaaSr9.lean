/- LabelSorts: the document's Sort: its parts. -/
import Derived.Test.YtjbomhihhgblbaaSrR
import Derived.Test.YtjbomhihhgblbaaSr8
namespace Go.Proofs.Ytjbomhihhgblbaa
open Go.RowKit Go.Shelf Go.Sort
theorem ins_end (x : Lb) : ∀ (O : List Lb) (k : Nat), k ≤ O.length → (∀ j y, j < k → O[j]? = some y → ltOf cf x y = false ∧ x ≠ y) → (k = O.length ∨ ∃ y, O[k]? = some y ∧ ltOf cf x y = true) → ins (ltOf cf) x O = O.take k ++ x :: O.drop k
  | [], k, hk, _, _ => by
    obtain rfl : k = 0 := by simpa using hk
    rfl
  | y :: O, 0, _, _, h => by
    rcases h with h | ⟨z, hz, hlt⟩
    · simp at h
    · simp only [List.getElem?_cons_zero, Option.some.injEq] at hz
      subst hz
      rw [ins, if_pos hlt]
      rfl
  | y :: O, k + 1, hk, hlo, h => by
    obtain ⟨h1, h2⟩ := hlo 0 y (by omega) rfl
    rw [ins, if_neg (by rw [h1]; decide), if_neg h2, ins_end x O k (by simpa using hk) (fun j z hj hz => hlo (j + 1) z (by omega) hz) (by
      rcases h with h | ⟨z, hz, hlt⟩
      · exact .inl (by simpa using h)
      · exact .inr ⟨z, hz, hlt⟩)]
    rfl
theorem ins_in (x : Lb) : ∀ (O : List Lb) (k : Nat), (∀ j y, j < k → O[j]? = some y → ltOf cf x y = false ∧ x ≠ y) → O[k]? = some x → ins (ltOf cf) x O = O
  | [], k, _, h => by simp at h
  | y :: O, 0, _, h => by
    simp only [List.getElem?_cons_zero, Option.some.injEq] at h
    subst h
    rw [ins, if_neg (by rw [swo.irrefl]; decide), if_pos rfl]
  | y :: O, k + 1, hlo, h => by
    obtain ⟨h1, h2⟩ := hlo 0 y (by omega) rfl
    rw [ins, if_neg (by rw [h1]; decide), if_neg h2, ins_in x O k (fun j z hj hz => hlo (j + 1) z (by omega) hz) h]
theorem cf_pos {x y : Lb} (h : 0 < cf x y) : ltOf cf x y = false ∧ x ≠ y := by
  refine ⟨by unfold ltOf; exact decide_eq_false (by omega), fun e => ?_⟩
  subst e
  rw [cf_key, lex_self] at h
  omega
theorem cf_zero {x y : Lb} (h : cf x y = 0) : x = y := by rw [cf_key] at h; exact key_inj (lex_zero h)
theorem cf_neg {x y : Lb} (h : cf x y < 0) : ltOf cf x y = true := by unfold ltOf; exact decide_eq_true h
theorem lr_drop {g o : Nat} {A : List Lb} {w : World} (h : Lr g o A w) (k : Nat) : Lr g (o + k * 21) (A.drop k) w := fun i x hx => by
  rw [List.getElem?_drop] at hx
  have := h (k + i) x hx
  rw [show o + k * 21 + i * 21 = o + (k + i) * 21 by rw [Nat.add_mul]; omega]
  exact this
theorem cut_hi {W : World} {B n : Nat} {v : Value} {O : List Lb} (ho : W.ownsRow B 29 21 v n (cells O)) (k : Nat) (hk : k ≤ O.length) : ∃ u, Ls u (O.take k) W ∧ ∀ X : World, (slR v none (some (.int .i64 (k : Int))) none).run Try.prog X = .ok u X := by
  obtain ⟨-, ⟨rfl, rfl⟩ | ⟨g, cap, rfl, -, hg, hc, hm, hr⟩⟩ := own_ls ho
  · obtain rfl : k = 0 := by simpa using hk
    refine ⟨.slice none 0 0, .inl ⟨rfl, none, 0, rfl, Nat.zero_le _, fun _ => rfl⟩, fun X => ?_⟩
    have := run_slice_h (P := Try.prog) X 22 none 0 0 u22 .i64 (0 : Int) (by omega) (by omega)
    unfold slR
    show (Instr.slice 22 (.slice none 0 0) none (some (.int .i64 0)) none).run Try.prog X = _
    rw [this, elem22, Try.sizeOf29]
    rfl
  · refine ⟨.slice (some ⟨g, 0, none⟩) k cap, .inr ⟨g, 0, cap, by rw [List.length_take, Nat.min_eq_left hk], by rw [List.length_take]; omega, hm, hg, lr_take hr k⟩, fun X => run_cut_h X g 0 O.length cap k (by omega)⟩
theorem cut_lo {W : World} {B n : Nat} {v : Value} {O : List Lb} (ho : W.ownsRow B 29 21 v n (cells O)) (k : Nat) (hk : k ≤ O.length) : ∃ u, Ls u (O.drop k) W ∧ ∀ X : World, (slR v (some (.int .i64 (k : Int))) none none).run Try.prog X = .ok u X := by
  obtain ⟨-, ⟨rfl, rfl⟩ | ⟨g, cap, rfl, -, hg, hc, hm, hr⟩⟩ := own_ls ho
  · obtain rfl : k = 0 := by simpa using hk
    refine ⟨.slice none 0 0, .inl ⟨rfl, none, 0, rfl, Nat.zero_le _, fun _ => rfl⟩, fun X => ?_⟩
    have := run_slice_l (P := Try.prog) X 22 none 0 0 u22 .i64 (0 : Int) (by omega) (by omega)
    unfold slR
    show (Instr.slice 22 (.slice none 0 0) (some (.int .i64 0)) none none).run Try.prog X = _
    rw [this, elem22, Try.sizeOf29]
    rfl
  · by_cases e : k < cap
    · refine ⟨.slice (some ⟨g, 0 + k * 21, none⟩) (O.length - k) (cap - k), .inr ⟨g, 0 + k * 21, cap - k, by rw [List.length_drop], by rw [List.length_drop]; omega, by omega, hg, lr_drop hr k⟩, fun X => run_cut_l X g 0 O.length cap k hk e⟩
    · have hkc : k = cap := by omega
      have hko : k = O.length := by omega
      refine ⟨.slice (some ⟨g, 0, none⟩) 0 0, .inl ⟨by rw [List.drop_of_length_le (by omega)], _, 0, rfl, Nat.zero_le _, fun _ => rfl⟩, fun X => ?_⟩
      have := run_slice_l (P := Try.prog) X 22 (some ⟨g, 0, none⟩) O.length cap u22 .i64 (k : Int) (by omega) (by omega)
      unfold slR
      rw [this, elem22, Try.sizeOf29]
      simp only [Result.andThen, sliced, Int.toNat_natCast]
      rw [if_pos hkc.symm]
      simp [← hko, ← hkc]
def bs1R (ps : Array (Nat × Value)) : Sem Value := Instr.buildSlice 22 1 ps
theorem toBs1 (ps : Array (Nat × Value)) : Instr.buildSlice 22 1 ps = bs1R ps := rfl
set_option maxRecDepth 100000 in
theorem bs1_20 (w : World) (a0 a1 a2 a3 a4 a5 a6 a7 a8 a9 a10 a11 a12 a13 a14 a15 a16 a17 a18 a19 : Nat) (s : ByteArray) : (Instr.buildSlice 22 1 #[(0, .agg (lab [a0, a1, a2, a3, a4, a5, a6, a7, a8, a9, a10, a11, a12, a13, a14, a15, a16, a17, a18, a19] s))]).run Try.prog w = .ok (.slice (some ⟨w.heap.size, 0, none⟩) 1 1) (w.alloc (.cells (lab [a0, a1, a2, a3, a4, a5, a6, a7, a8, a9, a10, a11, a12, a13, a14, a15, a16, a17, a18, a19] s) 29)) := by kernel_rfl
set_option maxRecDepth 100000 in
theorem run_bs1' (w : World) (h : List Nat) (hl : h.length = 20) (s : ByteArray) : (bs1R #[(0, .agg (lab h s))]).run Try.prog w = .ok (.slice (some ⟨w.heap.size, 0, none⟩) 1 1) (w.alloc (.cells (lab h s) 29)) := by
  match h, hl with
  | [a0, a1, a2, a3, a4, a5, a6, a7, a8, a9, a10, a11, a12, a13, a14, a15, a16, a17, a18, a19], _ => exact bs1_20 w a0 a1 a2 a3 a4 a5 a6 a7 a8 a9 a10 a11 a12 a13 a14 a15 a16 a17 a18 a19 s
theorem own_down {w : World} {B B' e n s : Nat} {v : Value} {xs : List Value} (h : w.ownsRow B e s v n xs) (hb : B' ≤ B) : w.ownsRow B' e s v n xs := by
  obtain ⟨k1, k2⟩ := h
  exact ⟨k1, k2.imp_right fun ⟨g, cap, cur, q1, q2, q3⟩ => ⟨g, cap, cur, q1, by omega, q3⟩⟩
/-- The three appends of one step. -/
theorem step_app {W : World} {B n : Nat} {v : Value} {O : List Lb} (ho : W.ownsRow B 29 21 v n (cells O)) (hB : B ≤ W.heap.size) (hn : O.length ≤ 1073741824) (k : Nat) (hk : k ≤ O.length) (x : Lb) :
    ∃ u1 u2 u3 u4 u5 W1 W2 W3, (∀ X : World, (slR v none (some (.int .i64 (k : Int))) none).run Try.prog X = .ok u1 X) ∧ (apL 22 #[.slice none 0 0, u1]).run Try.prog W = .ok u2 W1 ∧ (bs1R #[(0, .agg (lab x.h x.s))]).run Try.prog W1 = .ok (.slice (some ⟨W1.heap.size, 0, none⟩) 1 1) (W1.alloc (.cells (lab x.h x.s) 29)) ∧
      (apL 22 #[u2, .slice (some ⟨W1.heap.size, 0, none⟩) 1 1]).run Try.prog (W1.alloc (.cells (lab x.h x.s) 29)) = .ok u3 W2 ∧ (∀ X : World, (slR v (some (.int .i64 (k : Int))) none none).run Try.prog X = .ok u4 X) ∧ (apL 22 #[u3, u4]).run Try.prog W2 = .ok u5 W3 ∧
      W3.ownsRow B 29 21 u5 (O.length + 1) (cells (O.take k ++ x :: O.drop k)) ∧ Below W.heap.size W W1 ∧ Below W.heap.size W W3 := by
  obtain ⟨u1, l1, r1⟩ := cut_hi ho k hk
  obtain ⟨u4, l4, r4⟩ := cut_lo ho k hk
  obtain ⟨u2, W1, a1, o1, b1⟩ := run_apS W W.heap.size 0 22 (.slice none 0 0) u1 [] (O.take k) (by rw [cells_nil]; exact World.ownsRow_nil _ _ _ _) l1 (by rw [List.length_take]; omega) (Nat.le_refl _)
  rw [Nat.zero_add, List.nil_append] at o1
  have hrow : (W1.alloc (.cells (lab x.h x.s) 29)).heap[W1.heap.size]? = some (.cells (lab x.h x.s) 29 (0, 0)) := heap_alloc_new _ _
  have hls : Ls (.slice (some ⟨W1.heap.size, 0, none⟩) 1 1) [x] (W1.alloc (.cells (lab x.h x.s) 29)) := .inr ⟨W1.heap.size, 0, 1, rfl, Nat.le_refl _, by unfold maxLen; omega, (Array.getElem?_eq_some_iff.1 hrow).1, lr_row hrow (by rw [cells_single]; rfl)⟩
  have s1 := b1.size
  obtain ⟨u3, W2, a2, o2, b2⟩ := run_apS (W1.alloc (.cells (lab x.h x.s) 29)) W.heap.size (O.take k).length 22 u2 _ (O.take k) [x] (o1.alloc _) hls (by rw [List.length_take]; show _ + 1 ≤ _; omega) (by simp; omega)
  have b02 : Below W.heap.size W W2 := (b1.alloc s1 _).trans b2
  obtain ⟨u5, W3, a3, o3, b3⟩ := run_apS W2 W.heap.size ((O.take k).length + 1) 22 u3 u4 (O.take k ++ [x]) (O.drop k) o2 (l4.below b02) (by rw [List.length_take, List.length_drop]; omega) b02.size
  refine ⟨u1, u2, u3, u4, u5, W1, W2, W3, r1, a1, run_bs1' W1 x.h x.hl x.s, a2, r4, a3, ?_, b1, b02.trans b3⟩
  have e : O.take k ++ [x] ++ O.drop k = O.take k ++ x :: O.drop k := by simp
  rw [e] at o3
  have e2 : (O.take k).length + 1 + (O.drop k).length = O.length + 1 := by rw [List.length_take, List.length_drop]; omega
  rw [e2] at o3
  exact own_down o3 hB
end Go.Proofs.Ytjbomhihhgblbaa
