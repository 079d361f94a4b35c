/- UnHex of what Hex has written. -/
import Derived.Test.YtffghlbgbfhfdaaGreatDoorHxJ
import Derived.Test.YtffghlbgbfhfdaaGreatDoorRdM
namespace Go.Proofs.YtffghlbgbfhfdaaGreatDoor
open Go.RowKit
theorem tl_str (l : List Nat) (hb : Byt l) : Hx.tl (str l) = l := by
  apply List.ext_getElem (by rw [Hx.tl_len, str_size])
  intro i h1 h2
  have e := byt_str l hb i h2
  have e2 : l.getD i 0 = l[i] := by simp [List.getD, h2]
  rw [← e2, ← e]
  simp [Hx.tl]
  rfl
theorem hexL_byt : ∀ l : List Nat, Byt l → Byt (hexL l)
  | [], _ => by intro x hx; simp [hexL] at hx
  | x :: r, h => by
    intro c hc
    have hx := h x (by simp)
    simp only [hexL, List.mem_cons] at hc
    rcases hc with rfl | rfl | hc
    · exact Hx.g16_lt ⟨x / 16, by omega⟩
    · exact Hx.g16_lt ⟨x % 16, by omega⟩
    · exact hexL_byt r (fun y hy => h y (by simp [hy])) c hc
theorem unhex_b (d : List Nat) (hb : Byt d) (hl : d.length ≤ 4096) (w : World) (ht : Tx w) : Calls Tryz.prog 13 #[.string (str (hexL d))] w fun e w' => Below w.heap.size w w' ∧ ∃ v, e = .returned (.tuple #[v, .int .i64 0, .int .i64 0]) ∧ w'.ownsRow w.heap.size 5 1 v d.length (bs d).toList := by
  have := Hx.unhex_any (str (hexL d)) (by rw [str_size, hexL_len]; omega) w ht
  rw [tl_str _ (hexL_byt d hb), Hx.hexV_hexL d hb, Hx.hexE_back d hb] at this
  exact this
end Go.Proofs.YtffghlbgbfhfdaaGreatDoor
