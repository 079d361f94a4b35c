/- What Say answers; labels that are the same. -/
import Derived.Test.YteajpimonenopaaGreatDoorFgA
import Derived.Deep.DeepCutAuto
namespace Go.Proofs.YteajpimonenopaaGreatDoor
open Go.RowKit Go.Shelf Go.Sort Go.Proofs.YteajpimonenopaaGreatDoor.Sha
/-- What Say answers. -/
def sT (f : Fg) : ByteArray := if chkV f = 0 then sayT f else ⟨#[]⟩
theorem say_c (f : Fg) (w : World) (hk : Tk w) (hx : Tx w) (hv0 : Ls f.v f.L w) :
    Calls Tryz.prog 26 #[.agg (fing f)] w fun e w' => e = .returned (.tuple #[.string (sT f), .int .i64 ((chkV f : Nat) : Int)]) ∧ Below w.heap.size w w' := by
  have h : sayV f = .tuple #[.string (sT f), .int .i64 ((chkV f : Nat) : Int)] := by
    unfold sayV sT
    by_cases h : chkV f = 0
    · rw [if_pos h, if_pos h, h]; rfl
    · rw [if_neg h, if_neg h]; rfl
  rw [← h]
  exact say_any f w hk hx hv0
theorem fgT_congr (f : Fg) (n : ByteArray) {Y Z : List Nat} (h : Y = Z) (hY : Y.length = 32) (bY : Byt Y) (hZ : Z.length = 32) (bZ : Byt Z) : fgT f Y hY bY n = fgT f Z hZ bZ n := by
  subst h
  rfl
theorem below_drew (W : World) : Below W.heap.size W W.drew := ⟨rfl, rfl, rfl, Nat.le_refl _, fun _ _ => rfl⟩
theorem eq_same (H : List Nat) (N : ByteArray) (h : H.length = 20) (W : World) : (eqR (.agg (lab H N)) (.agg (lab H N))).run Tryz.prog W = .ok true W := by
  have := run_eqR W H H N N h h
  rw [decide_eq_true ⟨rfl, rfl⟩] at this
  exact this
end Go.Proofs.YteajpimonenopaaGreatDoor
