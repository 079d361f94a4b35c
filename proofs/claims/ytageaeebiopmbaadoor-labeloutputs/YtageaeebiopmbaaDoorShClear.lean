import Derived.Test.YtageaeebiopmbaaDoorShObjs
import Derived.Lib.SliceRun
namespace Go.Proofs.YtageaeebiopmbaaDoor.Sha
open Go.RowKit
theorem zero5 (w : World) : (zeroValue 5).run Tryd.prog w = .ok (.int .u8 0) w := by kernel_rfl
/-- clear on a part of a row. -/
theorem run_clear_row (w : World) (ty g o m c t : Nat) (cur : Array Value) (hg : w.heap[g]? = some (.cells cur t (0, 0))) (hm : o + m ≤ cur.size) :
    (Builtin.clear_ #[48] ty #[.slice (some ⟨g, o, none⟩) m c]).run Tryd.prog w = .ok (.tuple #[]) (w.setRow g (cur.toList.take o ++ List.replicate m (Value.int .u8 0) ++ cur.toList.drop (o + m)).toArray) := by
  have hs := run_storeCells_at (P := Tryd.prog) g o t (List.replicate m (Value.int .u8 0)) 0 cur w hg (by simpa using hm) (fun v hv => by rw [List.eq_of_mem_replicate hv]; rfl)
  simp only [Nat.add_zero, List.length_replicate] at hs
  cases m with
  | zero =>
    have e : w.setRow g (cur.toList.take o ++ List.replicate 0 (Value.int .u8 0) ++ cur.toList.drop (o + 0)).toArray = w := by
      simp only [List.replicate_zero, List.append_nil, Nat.add_zero, List.take_append_drop, Array.toArray_toList]
      exact setRow_self w g cur t (0, 0) hg
    rw [e]
    simp [Builtin.clear_, run_underlying Tryd.underlying48]
  | succ m =>
    have hz : (Builtin.zeroCells (Value.int .u8 0).cells (m + 1)).toList = List.replicate (m + 1) (Value.int .u8 0) := by
      simp [Builtin.zeroCells, Value.cells]
      apply List.ext_getElem
      · simp
      · intro i h1 h2
        simp [Nat.mod_one]
    simp [Builtin.clear_, run_underlying Tryd.underlying48, hz, hs]
theorem hs_clear (st rest : List Nat) (n u : Nat) (hst : st.length = 8) (hrs : rest.length = 64) (hu : u < 64) :
    (((hs st rest n).setIfInBounds (8 + u) (Value.int .u8 128)).toList.take (8 + (u + 1)) ++ List.replicate (63 - u) (Value.int .u8 0) ++ ((hs st rest n).setIfInBounds (8 + u) (Value.int .u8 128)).toList.drop (8 + (u + 1) + (63 - u))).toArray = hs st (rest.take u ++ 128 :: List.replicate (63 - u) 0) n := by
  have e1 : ((hs st rest n).setIfInBounds (8 + u) (Value.int .u8 128)).toList = st.map (fun (x : Nat) => Value.int .u32 (x : Int)) ++ ((rest.take u).map (fun (x : Nat) => Value.int .u8 (x : Int)) ++ (Value.int .u8 128 :: ((rest.drop (u + 1)).map (fun (x : Nat) => Value.int .u8 (x : Int)) ++ [Value.int .i64 (n : Int)]))) := by
    simp only [hs, List.setIfInBounds_toArray, List.toList_toArray]
    rw [List.set_append_right _ _ (by simp [hst]), List.set_append_left _ _ (by simp [hst, hrs, hu])]
    have : (rest.map (fun (x : Nat) => Value.int .u8 (x : Int))).set (8 + u - (st.map (fun (x : Nat) => Value.int .u32 (x : Int))).length) (Value.int .u8 128) = (rest.take u).map (fun (x : Nat) => Value.int .u8 (x : Int)) ++ Value.int .u8 128 :: (rest.drop (u + 1)).map (fun (x : Nat) => Value.int .u8 (x : Int)) := by
      rw [List.length_map, hst, Nat.add_sub_cancel_left, List.set_eq_take_append_cons_drop, if_pos (by simp [hrs]; omega), List.map_take, List.map_drop]
    rw [this]
    simp
  rw [e1]
  have l1 : (st.map (fun (x : Nat) => Value.int .u32 (x : Int))).length = 8 := by simp [hst]
  have l2 : ((rest.take u).map (fun (x : Nat) => Value.int .u8 (x : Int))).length = u := by rw [List.length_map, List.length_take, hrs]; omega
  have l3 : ((rest.drop (u + 1)).map (fun (x : Nat) => Value.int .u8 (x : Int))).length = 63 - u := by rw [List.length_map, List.length_drop, hrs]; omega
  generalize hA : st.map (fun (x : Nat) => Value.int .u32 (x : Int)) = A at *
  have t1 : (A ++ ((rest.take u).map (fun (x : Nat) => Value.int .u8 (x : Int)) ++ (Value.int .u8 128 :: ((rest.drop (u + 1)).map (fun (x : Nat) => Value.int .u8 (x : Int)) ++ [Value.int .i64 (n : Int)])))) = (A ++ ((rest.take u).map (fun (x : Nat) => Value.int .u8 (x : Int)) ++ [Value.int .u8 128])) ++ ((rest.drop (u + 1)).map (fun (x : Nat) => Value.int .u8 (x : Int)) ++ [Value.int .i64 (n : Int)]) := by simp
  rw [t1, List.take_left' (by simp [l1, hrs]; omega), ← List.append_assoc (A ++ _), List.drop_left' (by simp [l1, hrs]; omega)]
  simp [hs, hA]
end Go.Proofs.YtageaeebiopmbaaDoor.Sha
