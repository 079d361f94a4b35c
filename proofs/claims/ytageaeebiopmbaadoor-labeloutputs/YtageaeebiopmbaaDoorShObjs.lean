import Derived.Test.YtageaeebiopmbaaDoorShBegin
namespace Go.Proofs.YtageaeebiopmbaaDoor.Sha
open Go.RowKit
theorem size43 : (Tryd.prog.info? 78).map (·.size) = some 73 := by kernel_rfl
theorem hs_one (st rest : List Nat) (n : Nat) : (hs st rest n).all (·.oneCell') = true := by
  simp [hs, Value.oneCell']
def hz : Array Value := hs (List.replicate 8 0) (List.replicate 64 0) 0
theorem zero43 (w : World) : Sem.run Tryd.prog (zeroValue 78) w = .ok (.agg hz) w := by kernel_rfl
theorem zc76 : Tryd.zeroCells78 = hz := by kernel_rfl
attribute [local go_sem] zero43
end Go.Proofs.YtageaeebiopmbaaDoor.Sha
