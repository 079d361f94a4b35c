/- checkRefs, checkFinger. -/
import Derived.Test.YtffghlbgbfhfdaaDoorFg2
namespace Go.Proofs.YtffghlbgbfhfdaaDoor
open Go.RowKit Go.Shelf Go.Sort
theorem Ls.at {v : Value} {L : List Lb} {w : World} (h : Ls v L w) (hn : 0 < L.length) : ∃ b off cap, v = .slice (some ⟨b, off, none⟩) L.length cap ∧ L.length ≤ cap ∧ cap ≤ maxLen ∧ b < w.heap.size ∧ Lr b off L w := by
  rcases h with ⟨rfl, _⟩ | h
  · simp at hn
  · exact h
theorem Ls.form2 {v : Value} {L : List Lb} {w : World} (h : Ls v L w) : ∃ o c, v = .slice o L.length c ∧ (0 < L.length → ∃ b off, o = some ⟨b, off, none⟩ ∧ b < w.heap.size ∧ Lr b off L w) := by
  obtain ⟨o, c, rfl, -, -⟩ := h.form
  refine ⟨o, c, rfl, fun hn => ?_⟩
  obtain ⟨b, off, cap, he, -, -, hb, hr⟩ := h.at hn
  simp only [Value.slice.injEq] at he
  exact ⟨b, off, he.1, hb, hr⟩
/-- A label laid down anew. -/
theorem layL (W : World) (k : List Nat) (t : ByteArray) (hk : k.length = 20) : ∃ W', (storeR 60 (.pointer (some ⟨W.heap.size, 0, none⟩)) (.agg (lab k t))).run Tryd.prog (W.alloc (.cells #[.int .u8 0, .int .u8 0, .int .u8 0, .int .u8 0, .int .u8 0, .int .u8 0, .int .u8 0, .int .u8 0, .int .u8 0, .int .u8 0, .int .u8 0, .int .u8 0, .int .u8 0, .int .u8 0, .int .u8 0, .int .u8 0, .int .u8 0, .int .u8 0, .int .u8 0, .int .u8 0, .string ⟨#[]⟩] 60)) = .ok () W' ∧ W'.heap[W.heap.size]? = some (.cells (lab k t) 60 (0, 0)) ∧ Below W.heap.size W W' := by
  have h := run_storeR25 (W.alloc (.cells none25 60)) W.heap.size z20 k ⟨#[]⟩ t (heap_alloc_new _ _) rfl hk
  exact ⟨_, h, setRow_heap _ _ _ _ _ _ (heap_alloc_new _ _), below_setRow ((Below.refl _ W).alloc (Nat.le_refl _) _) (Nat.le_refl _) _⟩
theorem badN_drop {L : List Lb} {k : Nat} {x : Lb} (h : L[k]? = some x) : badN (L.drop k) = if okN x.s = 0 then badN (L.drop (k + 1)) else okN x.s := by
  obtain ⟨h1, h2⟩ := List.getElem?_eq_some_iff.1 h
  rw [List.drop_eq_getElem_cons h1, h2, badN]
theorem check_n (s : ByteArray) (E : Nat) (hE : E = okN s) (W : World) : ∃ F : Nat, Calls Tryd.prog 15 #[.string s] W fun e w' => e = .returned (.tuple #[.int .i64 (E : Int), .int .i64 (F : Int)]) ∧ Below W.heap.size W w' :=
  ⟨(checkN s).2, by rw [hE]; exact check_any s W⟩
attribute [local go_sem ↓] to25s to25l
set_option maxRecDepth 100000 in
set_option maxHeartbeats 1000000 in
theorem refs_any (L : List Lb) (hn : L.length ≤ 4398046511104) (v : Value) (w : World) (hv : Ls v L w) :
    Calls Tryd.prog 16 #[v] w fun e w' => e = .returned (.int .i64 ((refV L : Nat) : Int)) ∧ Below w.heap.size w w' := by
  obtain ⟨o, c, rfl, hr⟩ := hv.form2
  obtain ⟨n, hn0⟩ : ∃ n, n = L.length := ⟨_, rfl⟩
  rw [← hn0] at hr hn ⊢
  have HN : Hid (n = L.length) := hn0
  have HR : Hid (0 < n → ∃ b off, o = some ⟨b, off, none⟩ ∧ b < w.heap.size ∧ Lr b off L w) := hr
  clear hv hr
  by_cases hbig : 256 < n
  · have hv : Hid (refV L = 1) := by show _ = _; unfold refV; rw [if_pos (by omega)]
    have h1 : (256 : Int) < (n : Int) := by omega
    clear hn0
    go_enter Tryd.func16, Tryd.ntmps16
    go_wp2_with fail
    go_ret
    exact ⟨by rw [hv.out]; rfl, Below.refl _ _⟩
  · have hv : Hid (refV L = badN L) := by show _ = _; unfold refV; rw [if_neg (by omega)]
    have h1 : ¬ ((256 : Int) < (n : Int)) := by omega
    clear hn0
    go_enter Tryd.func16, Tryd.ntmps16
    go_wp2_with fail
    go_loopw [12] (fun iv wr => ∃ k : Nat, iv = .int .i64 (k : Int) ∧ k ≤ n ∧ Hid (badN L = badN (L.drop k)) ∧ Hid (Below w.heap.size w wr)) (fun iv _ => n - (intOf iv).toNat)
    case atStart => exact ⟨0, rfl, by omega, by show _ = _; rw [List.drop_zero], Below.refl _ _⟩
    case round =>
      obtain ⟨k, rfl, hk, HB, HW⟩ := hrel
      by_cases hlt : k < n
      · have hlt' : (k : Int) < (n : Int) := by omega
        have hk0 : (0 : Int) ≤ (k : Int) := by omega
        obtain ⟨b, off, rfl, hbw, hr⟩ := HR.out (by omega)
        obtain ⟨x, hx⟩ : ∃ x, L[k]? = some x := ⟨_, List.getElem?_eq_getElem (by have := HN.out; omega)⟩
        have lx := run_ldx wr b _ x (fun j u hu => (World.cell?_of_block (w := w) (HW.out.block b hbw)).trans (hr k x hx j u hu))
        obtain ⟨W1, s1, r1, b1⟩ := layL wr x.h x.s x.hl
        have nm : W1.cell? ⟨wr.heap.size, 20, none⟩ = some (.string x.s) := by rw [cell_of_row _ _ _ _ _ _ r1, lab_name x.h x.s x.hl]
        obtain ⟨E, hE⟩ : ∃ E, E = okN x.s := ⟨_, rfl⟩
        obtain ⟨F, C⟩ := check_n x.s E hE W1
        have HC : Hid _ := C
        have HX : Hid (badN L = if E = 0 then badN (L.drop (k + 1)) else E) := by show _ = _; rw [HB.out, badN_drop hx, hE]
        have HW1 : Hid (Below w.heap.size w W1) := HW.out.trans (b1.mono HW.out.size)
        clear hx hr C r1 b1 hE HB
        go_wp2_with fail
        refine Calls.mono HC.out ?_
        rintro e W2 ⟨rfl, b2⟩
        have HW2 : Hid (Below w.heap.size w W2) := HW1.out.trans (b2.mono HW1.out.size)
        clear HC b2 nm s1 lx
        by_cases h0 : E = 0
        · have HB2 : Hid (badN L = badN (L.drop (k + 1))) := by show _ = _; rw [HX.out, if_pos h0]
          subst h0
          clear HX
          go_wp2
          exact ⟨⟨k + 1, by rfl, by omega, HB2, HW2⟩, by simp only [intOf]; omega⟩
        · have HB2 : Hid (badN L = E) := by show _ = _; rw [HX.out, if_neg h0]
          have h0' : ¬ ((E : Int) = 0) := by omega
          clear HX
          go_wp2
          go_ret
          exact ⟨by rw [hv.out, HB2.out]; rfl, HW2.out⟩
      · have hlt' : ¬ ((k : Int) < (n : Int)) := by omega
        have HB2 : Hid (badN L = 0) := by show _ = _; rw [HB.out, List.drop_eq_nil_of_le (by have := HN.out; omega)]; rfl
        go_wp2
        go_ret
        exact ⟨by rw [hv.out, HB2.out]; rfl, HW.out⟩
end Go.Proofs.YtffghlbgbfhfdaaDoor
