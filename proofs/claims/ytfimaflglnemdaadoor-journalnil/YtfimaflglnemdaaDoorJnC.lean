/- JournalNil: going over the batches of a journal that there isn't: no round. -/
import Derived.RangeFuncNested
import Derived.RangeFuncBound
import Derived.RangeFuncCalls
import Derived.RangeFuncLeaves
import Derived.Shelf.Abstract
import Derived.Shelf.RegionOpen
import Derived.WalkKit
import Derived.OwnWalkIn
import Derived.TacticsInMore
import Derived.LoopNIn
import Derived.LoopIn
import Derived.Test.YtfimaflglnemdaaDoorJnA
namespace Go.Proofs.YtfimaflglnemdaaDoor
open Go.RowKit
open JM
set_option maxRecDepth 20000
namespace Nl
theorem grown_below {W W' : World} (h : Below W.heap.size W W') : W.grownBy W' none := ⟨h.os, h.tape, h.output, h.size, fun k hk _ => h.block k hk⟩
theorem each_nil (n B : Nat) (w0 : World) (hB : w0.cell? ⟨B, 0, none⟩ = some (.pointer none)) (Kp : World → World → Prop) :
    SeqStopsK (α := Empty) Fence.wide n Tryd.prog 43 #[.pointer (some ⟨B, 0, none⟩)] (fun _ => #[.int .i64 0, .slice none 0 0]) Kp (fun _ => True) (fun _ => False) 0 w0 := by
  intro l J Jx W hW hJ hJx hY h0
  refine callsIn_wide.2 ?_
  have cB := cell_below hW hB
  have HJ : ∀ W', Below W.heap.size W W' → J [] W' := fun W' hb => hJ [] W W' none h0 (grown_below hb) (fun r e => by cases e)
  have C1 := StoryN W
  clear hY hJ hJx h0
  show Calls _ _ #[.func (.yield l) #[] #[], .pointer (some ⟨B, 0, none⟩)] W _
  go_enter Tryd.func43, Tryd.ntmps43
  go_wp2_with fail
  refine C1.mono ?_
  rintro e w ⟨rfl, hb⟩
  clear C1
  obtain ⟨w2, hw2⟩ : ∃ w2, w.alloc (.cells #[.int .i64 0, .int .i64 0, .int .i64 0, .int .i64 0, .slice none 0 0, .slice none 0 0] 47) = w2 := ⟨_, rfl⟩
  have b2 : Below W.heap.size W w2 := by rw [← hw2]; exact hb.alloc hb.size _
  replace hw2 := mkHid hw2
  go_wp2_with fail
  try rw [hw2.out]
  clear hw2
  go_loopw [11] (fun iv wr => iv = .int .i64 0 ∧ wr = w2) (fun _ _ => 0)
  case atStart => exact ⟨rfl, rfl⟩
  case round =>
    obtain ⟨rfl, rfl⟩ := hrel
    go_wp2_with fail
    go_end0
    exact ⟨⟨_, rfl⟩, .inl ⟨[], trivial, HJ _ b2⟩⟩
end Nl
end Go.Proofs.YtfimaflglnemdaaDoor
