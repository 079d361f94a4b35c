import Derived.Test.YtmfmmcfdcjhecaaDoorShBegin
namespace Go.Proofs.YtmfmmcfdcjhecaaDoor.Sha
open Go.RowKit
theorem size43 : (Tryd.prog.info? 52).map (·.size) = some 73 := by kernel_rfl
theorem hs_one (st rest : List Nat) (n : Nat) : (hs st rest n).all (·.oneCell') = true := by
  simp [hs, Value.oneCell']
def hz : Array Value := hs (List.replicate 8 0) (List.replicate 64 0) 0
theorem zero43 (w : World) : Sem.run Tryd.prog (zeroValue 52) w = .ok (.agg hz) w := by kernel_rfl
attribute [local go_sem] zero43
theorem new_any (w : World) : Calls Tryd.prog 19 #[] w fun e w' => e = .returned (.pointer (some ⟨w.heap.size, 0, none⟩)) ∧ w' = w.alloc (.cells hz 52) := by
  go_enter Tryd.func19, Tryd.ntmps19
  go_wp2
  go_ret
  exact ⟨rfl, rfl⟩
end Go.Proofs.YtmfmmcfdcjhecaaDoor.Sha
