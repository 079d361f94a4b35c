/- JournalDevices: the code's refusals, whole. -/
import Derived.Test.YtdiflmckjpmngaaJvT
namespace Go.Proofs.Ytdiflmckjpmngaa
open Go.RowKit
set_option maxRecDepth 100000 in
theorem Append_long0 [Inhabited HoleT] {lo v : Nat} {W : World} {lv : Value} {f : Array Value} {ms : List (Array Value)} {sp : List Sp} (h : Dv lo W v lv f ms sp) (x : Sp) (hx : sp[ms.length]? = some x) (hbig : ms.length < 1000000) (oa : Option Addr) (m cap : Nat) (hlim : x.1.1.length + m < 9223372036854775807) (hl : 67108864 < x.1.1.length + m) : Calls Try.prog 6 #[.pointer (some ⟨v, 0, none⟩), .int .i64 0, .slice oa m cap] W fun e w' => e = .returned (.int .i64 1) ∧ Below W.heap.size W w' := by
  obtain ⟨W1, hW1⟩ : ∃ W1, W.alloc (.cells #[.slice oa m cap] 25) = W1 := ⟨_, rfl⟩
  have bW : Below W.heap.size W W1 := by rw [← hW1]; exact (Below.refl _ W).alloc (Nat.le_refl _) _
  have r1 : W1.heap[W.heap.size]? = some (.cells #[.slice oa m cap] 25 (0, 0)) := by rw [← hW1]; exact heap_alloc_new _ _
  have C : Hid _ := doE_app0 (h.below bW) x hx hbig W.heap.size (fun p Y hY => app_long p _ _ W.heap.size oa m cap Y ((hY.block _ (Array.getElem?_eq_some_iff.1 r1).1).trans r1) hlim hl)
  have HW : Hid (W.alloc (.cells #[.slice oa m cap] 25) = W1 ∧ Below W.heap.size W W1) := ⟨hW1, bW⟩
  clear hW1 bW r1 h hx hl hlim hbig
  go_enter Try.func6, Try.ntmps6
  go_wp2_with fail
  rw [HW.out.1]
  refine Calls.mono C.out ?_
  rintro e w' ⟨rfl, hE⟩
  have HE : Hid _ := HW.out.2.trans (hE.mono HW.out.2.size)
  clear hE C
  go_wp2_with fail
  go_ret
  exact ⟨rfl, HE.out⟩
set_option maxRecDepth 100000 in
theorem Cut_wrong0 [Inhabited HoleT] {lo v : Nat} {W : World} {lv : Value} {f : Array Value} {ms : List (Array Value)} {sp : List Sp} (h : Dv lo W v lv f ms sp) (x : Sp) (hx : sp[ms.length]? = some x) (hbig : ms.length < 1000000) (m : Int) (hl : m < 0 ∨ (x.1.1.length : Int) < m) : Calls Try.prog 9 #[.pointer (some ⟨v, 0, none⟩), .int .i64 0, .int .i64 m] W fun e w' => e = .returned (.int .i64 2) ∧ Below W.heap.size W w' := by
  obtain ⟨W1, hW1⟩ : ∃ W1, W.alloc (.cells #[.int .i64 m] 3) = W1 := ⟨_, rfl⟩
  have bW : Below W.heap.size W W1 := by rw [← hW1]; exact (Below.refl _ W).alloc (Nat.le_refl _) _
  have r1 : W1.heap[W.heap.size]? = some (.cells #[.int .i64 m] 3 (0, 0)) := by rw [← hW1]; exact heap_alloc_new _ _
  have C : Hid _ := doE_cut0 (h.below bW) x hx hbig W.heap.size (fun p Y hY => cut_wrong p _ _ W.heap.size m Y ((hY.block _ (Array.getElem?_eq_some_iff.1 r1).1).trans r1) hl)
  have HW : Hid (W.alloc (.cells #[.int .i64 m] 3) = W1 ∧ Below W.heap.size W W1) := ⟨hW1, bW⟩
  clear hW1 bW r1 h hx hl hbig
  go_enter Try.func9, Try.ntmps9
  go_wp2_with fail
  rw [HW.out.1]
  refine Calls.mono C.out ?_
  rintro e w' ⟨rfl, hE⟩
  have HE : Hid _ := HW.out.2.trans (hE.mono HW.out.2.size)
  clear hE C
  go_wp2_with fail
  go_ret
  exact ⟨rfl, HE.out⟩
set_option maxRecDepth 100000 in
theorem Append_long1 [Inhabited HoleT] {lo v : Nat} {W : World} {lv : Value} {f : Array Value} {ms : List (Array Value)} {sp : List Sp} (h : Dv lo W v lv f ms sp) (x : Sp) (hx : sp[ms.length]? = some x) (hbig : ms.length < 1000000) (oa : Option Addr) (m cap : Nat) (hlim : x.2.1.length + m < 9223372036854775807) (hl : 67108864 < x.2.1.length + m) : Calls Try.prog 6 #[.pointer (some ⟨v, 0, none⟩), .int .i64 1, .slice oa m cap] W fun e w' => e = .returned (.int .i64 1) ∧ Below W.heap.size W w' := by
  obtain ⟨W1, hW1⟩ : ∃ W1, W.alloc (.cells #[.slice oa m cap] 25) = W1 := ⟨_, rfl⟩
  have bW : Below W.heap.size W W1 := by rw [← hW1]; exact (Below.refl _ W).alloc (Nat.le_refl _) _
  have r1 : W1.heap[W.heap.size]? = some (.cells #[.slice oa m cap] 25 (0, 0)) := by rw [← hW1]; exact heap_alloc_new _ _
  have C : Hid _ := doE_app1 (h.below bW) x hx hbig W.heap.size (fun p Y hY => app_long p _ _ W.heap.size oa m cap Y ((hY.block _ (Array.getElem?_eq_some_iff.1 r1).1).trans r1) hlim hl)
  have HW : Hid (W.alloc (.cells #[.slice oa m cap] 25) = W1 ∧ Below W.heap.size W W1) := ⟨hW1, bW⟩
  clear hW1 bW r1 h hx hl hlim hbig
  go_enter Try.func6, Try.ntmps6
  go_wp2_with fail
  rw [HW.out.1]
  refine Calls.mono C.out ?_
  rintro e w' ⟨rfl, hE⟩
  have HE : Hid _ := HW.out.2.trans (hE.mono HW.out.2.size)
  clear hE C
  go_wp2_with fail
  go_ret
  exact ⟨rfl, HE.out⟩
set_option maxRecDepth 100000 in
theorem Cut_wrong1 [Inhabited HoleT] {lo v : Nat} {W : World} {lv : Value} {f : Array Value} {ms : List (Array Value)} {sp : List Sp} (h : Dv lo W v lv f ms sp) (x : Sp) (hx : sp[ms.length]? = some x) (hbig : ms.length < 1000000) (m : Int) (hl : m < 0 ∨ (x.2.1.length : Int) < m) : Calls Try.prog 9 #[.pointer (some ⟨v, 0, none⟩), .int .i64 1, .int .i64 m] W fun e w' => e = .returned (.int .i64 2) ∧ Below W.heap.size W w' := by
  obtain ⟨W1, hW1⟩ : ∃ W1, W.alloc (.cells #[.int .i64 m] 3) = W1 := ⟨_, rfl⟩
  have bW : Below W.heap.size W W1 := by rw [← hW1]; exact (Below.refl _ W).alloc (Nat.le_refl _) _
  have r1 : W1.heap[W.heap.size]? = some (.cells #[.int .i64 m] 3 (0, 0)) := by rw [← hW1]; exact heap_alloc_new _ _
  have C : Hid _ := doE_cut1 (h.below bW) x hx hbig W.heap.size (fun p Y hY => cut_wrong p _ _ W.heap.size m Y ((hY.block _ (Array.getElem?_eq_some_iff.1 r1).1).trans r1) hl)
  have HW : Hid (W.alloc (.cells #[.int .i64 m] 3) = W1 ∧ Below W.heap.size W W1) := ⟨hW1, bW⟩
  clear hW1 bW r1 h hx hl hbig
  go_enter Try.func9, Try.ntmps9
  go_wp2_with fail
  rw [HW.out.1]
  refine Calls.mono C.out ?_
  rintro e w' ⟨rfl, hE⟩
  have HE : Hid _ := HW.out.2.trans (hE.mono HW.out.2.size)
  clear hE C
  go_wp2_with fail
  go_ret
  exact ⟨rfl, HE.out⟩
end Go.Proofs.Ytdiflmckjpmngaa
