/- JournalDevices: the document's At. -/
import Derived.Test.YtdiflmckjpmngaaJv7
namespace Go.Proofs.Ytdiflmckjpmngaa
open Go.RowKit
def stt (B : List Nat × List Nat) (l : List Opn) : Fl × Fl := l.foldl (fun s o => stepD o s) ((B.1, []), (B.2, []))
theorem stt_succ (B : List Nat × List Nat) (l : List Opn) (i : Nat) (o : Opn) (h : l[i]? = some o) : stt B (l.take (i + 1)) = stepD o (stt B (l.take i)) := by
  have hi := (List.getElem?_eq_some_iff.1 h).1
  rw [List.take_add_one, h, stt, List.foldl_append]
  rfl
set_option maxRecDepth 100000 in
set_option maxHeartbeats 1600000 in
theorem AtR_bad [Inhabited HoleT] {lo v : Nat} {W : World} {ov : Value} {B : List Nat × List Nat} {s : Fl × Fl} {xs : List (Array Value)} {os : List Opn} (h : Ro lo W v ov B s xs os) (n k0 k1 : Int) (hb : n < 0 ∨ (xs.length : Int) < n ∨ k0 < 0 ∨ k1 < 0) : Calls Try.prog 19 #[.pointer (some ⟨v, 0, none⟩), .int .i64 n, .agg #[.int .i64 k0, .int .i64 k1]] W fun e w' => e = .returned (.tuple #[.agg #[.slice none 0 0, .slice none 0 0], .int .i64 2]) ∧ Below W.heap.size W w' := by
  obtain ⟨b0, b1, s0, s1, l0, l1, hr, -⟩ := h.rw.row
  have hov : ∃ oV cV, ov = .slice oV xs.length cV := by
    rcases h.own.2 with ⟨h1, h2⟩ | ⟨g, cap, cur, h1, _⟩
    · exact ⟨none, 0, by rw [h1, h2]⟩
    · exact ⟨_, _, h1⟩
  obtain ⟨oV, cV, hov⟩ := hov
  have c2 : ((W.alloc (.cells #[.int .i64 k0, .int .i64 k1] 33)).alloc (.cells #[.slice none 0 0, .slice none 0 0] 28)).cell? ⟨v, 2, none⟩ = some (.slice oV xs.length cV) := below_cell (below2 W _ _) (by rw [cell_of_row _ _ _ _ _ _ hr, ← hov]; rfl)
  obtain ⟨N, hN⟩ : ∃ N, xs.length = N := ⟨_, rfl⟩
  rw [hN] at c2 hb
  clear h hr hov hN
  by_cases h0 : n < 0
  · have d0 : decide (n < 0) = true := decide_eq_true h0
    clear hb
    go_enter Try.func19, Try.ntmps19
    go_wp2_with fail
    refine bodyPost_ret (results_Dt rfl _ _ (W.heap.size + 1) _ rfl rfl (row2n _ _ _)) rfl ?_
    exact ⟨rfl, below2 _ _ _⟩
  have d0 : decide (n < 0) = false := decide_eq_false h0
  by_cases h1 : (N : Int) < n
  · have d1 : decide ((N : Int) < n) = true := decide_eq_true h1
    clear hb
    go_enter Try.func19, Try.ntmps19
    go_wp2_with fail
    refine bodyPost_ret (results_Dt rfl _ _ (W.heap.size + 1) _ rfl rfl (row2n _ _ _)) rfl ?_
    exact ⟨rfl, below2 _ _ _⟩
  have d1 : decide ((N : Int) < n) = false := decide_eq_false h1
  by_cases h2 : k0 < 0
  · have d2 : decide (k0 < 0) = true := decide_eq_true h2
    clear hb
    go_enter Try.func19, Try.ntmps19
    go_wp2_with fail
    refine bodyPost_ret (results_Dt rfl _ _ (W.heap.size + 1) _ rfl rfl (row2n _ _ _)) rfl ?_
    exact ⟨rfl, below2 _ _ _⟩
  have d2 : decide (k0 < 0) = false := decide_eq_false h2
  · have h3 : k1 < 0 := by omega
    have d3 : decide (k1 < 0) = true := decide_eq_true h3
    clear hb
    go_enter Try.func19, Try.ntmps19
    go_wp2_with fail
    refine bodyPost_ret (results_Dt rfl _ _ (W.heap.size + 1) _ rfl rfl (row2n _ _ _)) rfl ?_
    exact ⟨rfl, below2 _ _ _⟩
theorem ld_D7 (w : World) (g : Nat) (c0 c1 c2 c3 c4 c5 c6 : Value) (h : w.heap[g]? = some (.cells #[c0, c1, c2, c3, c4, c5, c6] 64 (0, 0))) : (ldD (.pointer (some ⟨g, 0, none⟩))).run Try.prog w = .ok (.agg #[c0, c1]) w := by
  have hr : w.rangeAt g 0 [c0, c1] := by
    have := World.rangeAt_of_block h 0 2
    simpa using this
  have := run_loadAt_mid (P := Try.prog) w g 0 28 [c0, c1] _ hr Try.underlying28 rfl (by kernel_rfl)
  simpa [ldD] using this
end Go.Proofs.Ytdiflmckjpmngaa
