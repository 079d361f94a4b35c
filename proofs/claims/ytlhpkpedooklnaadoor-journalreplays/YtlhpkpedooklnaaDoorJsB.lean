/- JournalReplays: the document's sum. -/
import Derived.Test.YtlhpkpedooklnaaDoorJsA
namespace Go.Proofs.YtlhpkpedooklnaaDoor
open Go.RowKit
open JM
set_option maxRecDepth 100000 in
theorem sum_doc (l : List Nat) (hl : l.length ≤ 281474976710656) (v : Value) (W : World) (hv : Bl W v l) : Calls Tryd.prog 20 #[v] W fun e w' => ∃ v', e = .returned v' ∧ Ob W.heap.size w' v' (leb 4 (crcN l)) ∧ Below W.heap.size W w' := by
  have hb : Byt l := by
    obtain ⟨_, _, _, _, _, hb, _⟩ := hv
    exact hb
  have hlt : crcN l < 4294967296 := by
    have := crc_lt32 l hb
    omega
  have C := crcR_any l hb hl v W hv
  obtain ⟨n, hn⟩ : ∃ n, crcN l = n := ⟨_, rfl⟩
  rw [hn] at C hlt ⊢
  have L := laid_any n 4 (by omega) (by omega) W
  have w1 : IntKind.i64.wrap (n : Int) = (n : Int) := by rw [IntKind.wrap_i64]; omega
  clear hn hv hlt hb hl
  obtain ⟨x, hx⟩ : ∃ x, leb 4 n = x := ⟨_, rfl⟩
  rw [hx] at L ⊢
  rw [show ((4 : Nat) : Int) = 4 from rfl] at L
  clear hx
  go_enter Tryd.func20, Tryd.ntmps20
  go_wp2_with fail
  refine C.mono ?_
  rintro e w2 ⟨rfl, rfl⟩
  dsimp only
  clear C
  go_wp2_with fail
  refine L.mono ?_
  rintro e w3 ⟨v', rfl, h1, h2⟩
  dsimp only
  go_wp2_with fail
  go_ret
  exact ⟨_, rfl, h1, h2⟩
end Go.Proofs.YtlhpkpedooklnaaDoor
