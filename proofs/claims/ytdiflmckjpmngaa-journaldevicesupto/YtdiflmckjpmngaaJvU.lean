/- The journal's device: At refused; a device that there isn't. -/
import Derived.Test.YtdiflmckjpmngaaJvM
namespace Go.Proofs.Ytdiflmckjpmngaa
open Go.RowKit
set_option maxRecDepth 100000 in
set_option maxHeartbeats 1600000 in
theorem At_bad [Inhabited HoleT] {lo v : Nat} {W : World} {lv : Value} {f : Array Value} {ms : List (Array Value)} {sp : List Sp} (h : Dv lo W v lv f ms sp) (n k0 k1 : Int) (hb : n < 0 ∨ (ms.length : Int) < n ∨ k0 < 0 ∨ k1 < 0) : Calls Try.prog 11 #[.pointer (some ⟨v, 0, none⟩), .int .i64 n, .agg #[.int .i64 k0, .int .i64 k1]] W fun e w' => e = .returned (.tuple #[.agg #[.slice none 0 0, .slice none 0 0], .int .i64 2]) ∧ Below W.heap.size W w' := by
  have bW := below2 W (.cells #[.int .i64 k0, .int .i64 k1] 33) (.cells #[.slice none 0 0, .slice none 0 0] 28)
  have C1 : Hid _ := count_any (h.below bW)
  clear h bW
  by_cases h0 : n < 0
  · clear hb
    go_enter Try.func11, Try.ntmps11
    go_wp2_with fail
    refine bodyPost_ret (results_Dt rfl _ _ (W.heap.size + 1) _ rfl rfl (row2n _ _ _)) rfl ?_
    exact ⟨rfl, below2 _ _ _⟩
  · by_cases h1 : (ms.length : Int) < n
    · clear hb
      go_enter Try.func11, Try.ntmps11
      go_wp2_with fail
      refine Calls.mono C1.out ?_
      rintro e w' ⟨rfl, rfl⟩
      go_wp2_with fail
      refine bodyPost_ret (results_Dt rfl _ _ (W.heap.size + 1) _ rfl rfl (row2n _ _ _)) rfl ?_
      exact ⟨rfl, below2 _ _ _⟩
    · by_cases h2 : k0 < 0
      · clear hb
        go_enter Try.func11, Try.ntmps11
        go_wp2_with fail
        refine Calls.mono C1.out ?_
        rintro e w' ⟨rfl, rfl⟩
        go_wp2_with fail
        refine bodyPost_ret (results_Dt rfl _ _ (W.heap.size + 1) _ rfl rfl (row2n _ _ _)) rfl ?_
        exact ⟨rfl, below2 _ _ _⟩
      · have h3 : k1 < 0 := by omega
        clear hb
        go_enter Try.func11, Try.ntmps11
        go_wp2_with fail
        refine Calls.mono C1.out ?_
        rintro e w' ⟨rfl, rfl⟩
        go_wp2_with fail
        refine bodyPost_ret (results_Dt rfl _ _ (W.heap.size + 1) _ rfl rfl (row2n _ _ _)) rfl ?_
        exact ⟨rfl, below2 _ _ _⟩
end Go.Proofs.Ytdiflmckjpmngaa
