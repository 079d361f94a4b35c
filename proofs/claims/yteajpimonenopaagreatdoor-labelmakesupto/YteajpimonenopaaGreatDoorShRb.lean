/- The document's own block: its tails, as code. -/
import Derived.Test.YteajpimonenopaaGreatDoorShMix
namespace Go.Proofs.YteajpimonenopaaGreatDoor.Sha
open Go.RowKit
def headR : Code → Option Nat
  | .region id _ _ => some id
  | .seq a _ => headR a
  | .scope c => headR c
  | .block _ c => headR c
  | _ => none
def fromR (n : Nat) : Code → Option Code
  | .seq a b => if headR a = some n then some (.seq a b) else match fromR n a with
    | some c => some (.seq c b)
    | none => fromR n b
  | .scope c => fromR n c
  | _ => none
end Go.Proofs.YteajpimonenopaaGreatDoor.Sha
