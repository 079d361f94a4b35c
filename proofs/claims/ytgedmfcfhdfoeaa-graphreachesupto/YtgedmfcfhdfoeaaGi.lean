/- Graphs: Norm and Transpose, the code's. -/
import Derived.Test.YtgedmfcfhdfoeaaGh
namespace Go.Proofs.Ytgedmfcfhdfoeaa
open Go.RowKit GM
/-- Edges as pairs of nodes. -/
def nE (E : List (Int × Int)) : List (Nat × Nat) := E.map fun e => (e.1.toNat, e.2.toNat)
theorem nE_zE (E : List (Nat × Nat)) : nE (zE E) = E := by simp [nE, zE, Function.comp_def]
theorem badF_none (N : Int) : ∀ (E : List (Int × Int)) (i : Nat), badF N E i = none → ∀ e ∈ E, okE N e = true
  | [], _, _, e, he => by cases he
  | x :: r, i, h, e, he => by
    rw [badF] at h
    by_cases hx : okE N x = true
    · rw [if_pos hx] at h
      rcases List.mem_cons.1 he with rfl | he
      · exact hx
      · exact badF_none N r (i + 1) h e he
    · rw [if_neg hx] at h
      cases h
theorem chk_ok {N : Int} {E : List (Int × Int)} (h : (chk N E).1 = 0) : ∃ (n : Nat) (F : List (Nat × Nat)), N = (n : Int) ∧ n ≤ 8192 ∧ E = zE F ∧ (∀ e ∈ F, e.1 < n ∧ e.2 < n) ∧ F.length ≤ 1048576 := by
  unfold chk at h
  by_cases h1 : N < 0 ∨ 8192 < N
  · rw [if_pos h1] at h; simp at h
  · rw [if_neg h1] at h
    by_cases h2 : 1048576 < E.length
    · rw [if_pos h2] at h; simp at h
    · rw [if_neg h2] at h
      have hb : badF N E 0 = none := by
        cases hb : badF N E 0 with
        | none => rfl
        | some i => rw [hb] at h; simp [edgV] at h
      have hk := badF_none N E 0 hb
      have he : E = zE (nE E) := by
        unfold zE nE
        rw [List.map_map]
        symm
        conv => rhs; rw [← List.map_id E]
        apply List.map_congr_left
        intro e hem
        have := of_decide_eq_true (hk e hem)
        simp
        apply Prod.ext
        · simp; omega
        · simp; omega
      refine ⟨N.toNat, nE E, by omega, by omega, he, fun e hem => ?_, by simp [nE]; omega⟩
      unfold nE at hem
      rw [List.mem_map] at hem
      obtain ⟨x, hx, rfl⟩ := hem
      have := of_decide_eq_true (hk x hx)
      simp
      omega
/-- What Norm and Transpose answer beside the error. -/
def okN (N : Int) (E : List (Int × Int)) : Int := if (chk N E).1 = 0 then N else 0
def nrmR (N : Int) (E : List (Int × Int)) : List (Int × Int) := if (chk N E).1 = 0 then zE (nrm N.toNat (nE E)) else []
def trnR (N : Int) (E : List (Int × Int)) : List (Int × Int) := if (chk N E).1 = 0 then zE (nrm N.toNat (trn (nE E))) else []
theorem edg_len (L : Nat → List Nat) (m : Nat) (h : ∀ a, (L a).length ≤ m) : ∀ n, (edg L n).length ≤ n * m
  | 0 => by simp [edg]
  | n + 1 => by
    rw [edg_succ, List.length_append, List.length_map, Nat.succ_mul]
    have := edg_len L m h n
    have := h n
    omega
theorem edg_small (L : Nat → List Nat) (n : Nat) (hn : n ≤ 8192) : (edg (trL L n) n).length ≤ 1073741824 := by
  have h1 := edg_len (trL L n) n (fun a => trL_len L n a) n
  have h2 : n * n ≤ 8192 * 8192 := Nat.mul_le_mul hn hn
  omega
theorem trL_mem {L : Nat → List Nat} {b a x : Nat} (h : x ∈ trL L b a) : x < b := trL_lt L b a x h
set_option maxRecDepth 100000 in
theorem checkWith_any (N : Int) (E : List (Int × Int)) (v : Value) (w : World) (hv : El v E w) :
    Calls Try.prog 30 #[grV N v, .slice none 0 0] w fun e w' => e = .returned (.int .i64 ((chk N E).1 : Int)) ∧ Below w.heap.size w w' := by
  obtain ⟨W0, hW0⟩ : ∃ W0, w.alloc (.cells #[.int .i64 N, v] 24) = W0 := ⟨_, rfl⟩
  have b0 : Below w.heap.size w W0 := by rw [← hW0]; exact (Below.refl _ w).alloc (Nat.le_refl _) _
  have C := check_any N E v W0 (hv.below b0)
  unfold grV at C ⊢
  obtain ⟨a, ha⟩ : ∃ a, a = (chk N E).1 := ⟨_, rfl⟩
  obtain ⟨b, hb⟩ : ∃ b, b = (chk N E).2 := ⟨_, rfl⟩
  rw [← ha, ← hb] at C
  rw [← ha]
  have HC : Hid _ := C
  have HW0 : Hid (w.alloc (.cells #[.int .i64 N, v] 24) = W0) := hW0
  have HB0 : Hid (Below w.heap.size w W0) := b0
  clear C ha hb hW0 b0 hv
  go_enter Try.func30, Try.ntmps30
  go_wp2_with fail
  rw [HW0.out]
  refine Calls.mono HC.out ?_
  rintro e W1 ⟨rfl, b1⟩
  have HB1 : Hid (Below w.heap.size w W1) := HB0.out.trans (b1.mono HB0.out.size)
  clear HC b1
  by_cases h0 : a = 0
  · subst h0
    go_wp2_with fail
    go_loopw [19] (fun i wr => i = .int .i64 0 ∧ Hid (Below w.heap.size w wr)) (fun _ _ => 0)
    case atStart => exact ⟨rfl, HB1⟩
    case round =>
      obtain ⟨rfl, HB⟩ := hrel
      go_wp2
      go_ret
      exact ⟨rfl, HB.out⟩
  · have h0' : ((a : Int) == 0) = false := by simpa using h0
    go_wp2
    go_ret
    exact ⟨rfl, HB1.out⟩
end Go.Proofs.Ytgedmfcfhdfoeaa
