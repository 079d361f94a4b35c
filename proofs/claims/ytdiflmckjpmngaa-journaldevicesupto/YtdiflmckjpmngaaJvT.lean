/- The journal's device: what is refused. -/
import Derived.Test.YtdiflmckjpmngaaJvM
namespace Go.Proofs.Ytdiflmckjpmngaa
open Go.RowKit
set_option maxRecDepth 100000 in
theorem Append_file (W : World) (v : Nat) (fl : Int) (h0 : fl ≠ 0) (h1 : fl ≠ 1) (o : Option Addr) (n c : Nat) : Calls Try.prog 6 #[.pointer (some ⟨v, 0, none⟩), .int .i64 fl, .slice o n c] W fun e w' => e = .returned (.int .i64 2) ∧ Below W.heap.size W w' := by
  have b0 : (fl != 0) = true := by simpa using h0
  have b1 : (fl != 1) = true := by simpa using h1
  have C : Hid (∀ F1 F2 F3, ∀ Y, Calls Try.prog 25 #[.pointer (some ⟨v, 0, none⟩), .int .i64 fl, .func F1 F2 F3] Y fun e w' => e = .returned (.int .i64 2) ∧ w' = Y) := fun F1 F2 F3 Y => by
    go_enter Try.func25, Try.ntmps25
    go_wp2
    go_ret
    exact ⟨rfl, rfl⟩
  go_enter Try.func6, Try.ntmps6
  go_wp2_with fail
  refine Calls.mono (C.out _ _ _ _) ?_
  rintro e w' ⟨rfl, rfl⟩
  go_wp2_with fail
  go_ret
  exact ⟨rfl, (Below.refl _ W).alloc (Nat.le_refl _) _⟩
set_option maxRecDepth 100000 in
theorem Sync_file (W : World) (v : Nat) (fl : Int) (h0 : fl ≠ 0) (h1 : fl ≠ 1) : Calls Try.prog 7 #[.pointer (some ⟨v, 0, none⟩), .int .i64 fl] W fun e w' => e = .returned (.int .i64 2) ∧ Below W.heap.size W w' := by
  have b0 : (fl != 0) = true := by simpa using h0
  have b1 : (fl != 1) = true := by simpa using h1
  have C : Hid (∀ F1 F2 F3, ∀ Y, Calls Try.prog 25 #[.pointer (some ⟨v, 0, none⟩), .int .i64 fl, .func F1 F2 F3] Y fun e w' => e = .returned (.int .i64 2) ∧ w' = Y) := fun F1 F2 F3 Y => by
    go_enter Try.func25, Try.ntmps25
    go_wp2
    go_ret
    exact ⟨rfl, rfl⟩
  go_enter Try.func7, Try.ntmps7
  go_wp2_with fail
  refine Calls.mono (C.out _ _ _ _) ?_
  rintro e w' ⟨rfl, rfl⟩
  go_wp2_with fail
  go_ret
  exact ⟨rfl, Below.refl _ _⟩
set_option maxRecDepth 100000 in
theorem Cut_file (W : World) (v : Nat) (fl n : Int) (h0 : fl ≠ 0) (h1 : fl ≠ 1) : Calls Try.prog 9 #[.pointer (some ⟨v, 0, none⟩), .int .i64 fl, .int .i64 n] W fun e w' => e = .returned (.int .i64 2) ∧ Below W.heap.size W w' := by
  have b0 : (fl != 0) = true := by simpa using h0
  have b1 : (fl != 1) = true := by simpa using h1
  have C : Hid (∀ F1 F2 F3, ∀ Y, Calls Try.prog 25 #[.pointer (some ⟨v, 0, none⟩), .int .i64 fl, .func F1 F2 F3] Y fun e w' => e = .returned (.int .i64 2) ∧ w' = Y) := fun F1 F2 F3 Y => by
    go_enter Try.func25, Try.ntmps25
    go_wp2
    go_ret
    exact ⟨rfl, rfl⟩
  go_enter Try.func9, Try.ntmps9
  go_wp2_with fail
  refine Calls.mono (C.out _ _ _ _) ?_
  rintro e w' ⟨rfl, rfl⟩
  go_wp2_with fail
  go_ret
  exact ⟨rfl, (Below.refl _ W).alloc (Nat.le_refl _) _⟩
set_option maxRecDepth 100000 in
set_option maxHeartbeats 1600000 in
theorem doE_app0 [Inhabited HoleT] {lo v : Nat} {W : World} {lv : Value} {f : Array Value} {ms : List (Array Value)} {sp : List Sp} (h : Dv lo W v lv f ms sp) (x : Sp) (hx : sp[ms.length]? = some x) (hbig : ms.length < 1000000) (pb : Nat)
    (hcl : ∀ (p : Option Addr) (Y : World), Below W.heap.size W Y → Calls Try.prog 26 #[.agg #[.pointer p, .int .i64 (x.1.1.length : Int), .int .i64 (x.1.2 : Int)], .pointer (some ⟨pb, 0, none⟩)] Y fun e w' => e = .returned (.tuple #[.agg #[.pointer none, .int .i64 0, .int .i64 0], .int .i64 1]) ∧ Below Y.heap.size Y w') : Calls Try.prog 25 #[.pointer (some ⟨v, 0, none⟩), .int .i64 0, .func (.func 26) #[] #[.pointer (some ⟨pb, 0, none⟩)]] W fun e w' => e = .returned (.int .i64 1) ∧ Below W.heap.size W w' := by
  have C1 : Hid _ := count_any h
  have C2 : Hid _ := at_any h ms.length x hx (by omega)
  have HCL : Hid _ := hcl
  clear h hx hcl hbig
  go_enter Try.func25, Try.ntmps25
  go_wp2_with fail
  refine Calls.mono C1.out ?_
  rintro e w' ⟨rfl, hw⟩
  have hw2 := hw.symm
  subst hw2
  go_wp2_with fail
  refine Calls.mono C2.out ?_
  rintro e X ⟨m, rfl, hm, hX⟩
  obtain ⟨p0, p1, rfl, -, -⟩ := id hm
  have C3 : Hid _ := HCL.out p0 (X.alloc (.cells (momA p0 x.1.1.length x.1.2 p1 x.2.1.length x.2.2) 52)) (hX.alloc hX.size _)
  have HX : Hid (∀ o, Below W.heap.size W (X.alloc o)) := fun o => hX.alloc hX.size o
  clear hm hX C1 C2
  unfold momA at *
  go_wp2_with fail
  refine Calls.mono C3.out ?_
  rintro e Y ⟨rfl, hY⟩
  have HY : Hid (Below W.heap.size W Y) := (HX.out _).trans (hY.mono (HX.out _).size)
  clear hY C3
  go_wp2_with fail
  go_ret
  exact ⟨rfl, HY.out.alloc HY.out.size _⟩
set_option maxRecDepth 100000 in
set_option maxHeartbeats 1600000 in
theorem doE_app1 [Inhabited HoleT] {lo v : Nat} {W : World} {lv : Value} {f : Array Value} {ms : List (Array Value)} {sp : List Sp} (h : Dv lo W v lv f ms sp) (x : Sp) (hx : sp[ms.length]? = some x) (hbig : ms.length < 1000000) (pb : Nat)
    (hcl : ∀ (p : Option Addr) (Y : World), Below W.heap.size W Y → Calls Try.prog 26 #[.agg #[.pointer p, .int .i64 (x.2.1.length : Int), .int .i64 (x.2.2 : Int)], .pointer (some ⟨pb, 0, none⟩)] Y fun e w' => e = .returned (.tuple #[.agg #[.pointer none, .int .i64 0, .int .i64 0], .int .i64 1]) ∧ Below Y.heap.size Y w') : Calls Try.prog 25 #[.pointer (some ⟨v, 0, none⟩), .int .i64 1, .func (.func 26) #[] #[.pointer (some ⟨pb, 0, none⟩)]] W fun e w' => e = .returned (.int .i64 1) ∧ Below W.heap.size W w' := by
  have C1 : Hid _ := count_any h
  have C2 : Hid _ := at_any h ms.length x hx (by omega)
  have HCL : Hid _ := hcl
  clear h hx hcl hbig
  go_enter Try.func25, Try.ntmps25
  go_wp2_with fail
  refine Calls.mono C1.out ?_
  rintro e w' ⟨rfl, hw⟩
  have hw2 := hw.symm
  subst hw2
  go_wp2_with fail
  refine Calls.mono C2.out ?_
  rintro e X ⟨m, rfl, hm, hX⟩
  obtain ⟨p0, p1, rfl, -, -⟩ := id hm
  have C3 : Hid _ := HCL.out p1 (X.alloc (.cells (momA p0 x.1.1.length x.1.2 p1 x.2.1.length x.2.2) 52)) (hX.alloc hX.size _)
  have HX : Hid (∀ o, Below W.heap.size W (X.alloc o)) := fun o => hX.alloc hX.size o
  clear hm hX C1 C2
  unfold momA at *
  go_wp2_with fail
  refine Calls.mono C3.out ?_
  rintro e Y ⟨rfl, hY⟩
  have HY : Hid (Below W.heap.size W Y) := (HX.out _).trans (hY.mono (HX.out _).size)
  clear hY C3
  go_wp2_with fail
  go_ret
  exact ⟨rfl, HY.out.alloc HY.out.size _⟩
set_option maxRecDepth 100000 in
set_option maxHeartbeats 1600000 in
theorem doE_cut0 [Inhabited HoleT] {lo v : Nat} {W : World} {lv : Value} {f : Array Value} {ms : List (Array Value)} {sp : List Sp} (h : Dv lo W v lv f ms sp) (x : Sp) (hx : sp[ms.length]? = some x) (hbig : ms.length < 1000000) (pb : Nat)
    (hcl : ∀ (p : Option Addr) (Y : World), Below W.heap.size W Y → Calls Try.prog 28 #[.agg #[.pointer p, .int .i64 (x.1.1.length : Int), .int .i64 (x.1.2 : Int)], .pointer (some ⟨pb, 0, none⟩)] Y fun e w' => e = .returned (.tuple #[.agg #[.pointer none, .int .i64 0, .int .i64 0], .int .i64 2]) ∧ Below Y.heap.size Y w') : Calls Try.prog 25 #[.pointer (some ⟨v, 0, none⟩), .int .i64 0, .func (.func 28) #[] #[.pointer (some ⟨pb, 0, none⟩)]] W fun e w' => e = .returned (.int .i64 2) ∧ Below W.heap.size W w' := by
  have C1 : Hid _ := count_any h
  have C2 : Hid _ := at_any h ms.length x hx (by omega)
  have HCL : Hid _ := hcl
  clear h hx hcl hbig
  go_enter Try.func25, Try.ntmps25
  go_wp2_with fail
  refine Calls.mono C1.out ?_
  rintro e w' ⟨rfl, hw⟩
  have hw2 := hw.symm
  subst hw2
  go_wp2_with fail
  refine Calls.mono C2.out ?_
  rintro e X ⟨m, rfl, hm, hX⟩
  obtain ⟨p0, p1, rfl, -, -⟩ := id hm
  have C3 : Hid _ := HCL.out p0 (X.alloc (.cells (momA p0 x.1.1.length x.1.2 p1 x.2.1.length x.2.2) 52)) (hX.alloc hX.size _)
  have HX : Hid (∀ o, Below W.heap.size W (X.alloc o)) := fun o => hX.alloc hX.size o
  clear hm hX C1 C2
  unfold momA at *
  go_wp2_with fail
  refine Calls.mono C3.out ?_
  rintro e Y ⟨rfl, hY⟩
  have HY : Hid (Below W.heap.size W Y) := (HX.out _).trans (hY.mono (HX.out _).size)
  clear hY C3
  go_wp2_with fail
  go_ret
  exact ⟨rfl, HY.out.alloc HY.out.size _⟩
set_option maxRecDepth 100000 in
set_option maxHeartbeats 1600000 in
theorem doE_cut1 [Inhabited HoleT] {lo v : Nat} {W : World} {lv : Value} {f : Array Value} {ms : List (Array Value)} {sp : List Sp} (h : Dv lo W v lv f ms sp) (x : Sp) (hx : sp[ms.length]? = some x) (hbig : ms.length < 1000000) (pb : Nat)
    (hcl : ∀ (p : Option Addr) (Y : World), Below W.heap.size W Y → Calls Try.prog 28 #[.agg #[.pointer p, .int .i64 (x.2.1.length : Int), .int .i64 (x.2.2 : Int)], .pointer (some ⟨pb, 0, none⟩)] Y fun e w' => e = .returned (.tuple #[.agg #[.pointer none, .int .i64 0, .int .i64 0], .int .i64 2]) ∧ Below Y.heap.size Y w') : Calls Try.prog 25 #[.pointer (some ⟨v, 0, none⟩), .int .i64 1, .func (.func 28) #[] #[.pointer (some ⟨pb, 0, none⟩)]] W fun e w' => e = .returned (.int .i64 2) ∧ Below W.heap.size W w' := by
  have C1 : Hid _ := count_any h
  have C2 : Hid _ := at_any h ms.length x hx (by omega)
  have HCL : Hid _ := hcl
  clear h hx hcl hbig
  go_enter Try.func25, Try.ntmps25
  go_wp2_with fail
  refine Calls.mono C1.out ?_
  rintro e w' ⟨rfl, hw⟩
  have hw2 := hw.symm
  subst hw2
  go_wp2_with fail
  refine Calls.mono C2.out ?_
  rintro e X ⟨m, rfl, hm, hX⟩
  obtain ⟨p0, p1, rfl, -, -⟩ := id hm
  have C3 : Hid _ := HCL.out p1 (X.alloc (.cells (momA p0 x.1.1.length x.1.2 p1 x.2.1.length x.2.2) 52)) (hX.alloc hX.size _)
  have HX : Hid (∀ o, Below W.heap.size W (X.alloc o)) := fun o => hX.alloc hX.size o
  clear hm hX C1 C2
  unfold momA at *
  go_wp2_with fail
  refine Calls.mono C3.out ?_
  rintro e Y ⟨rfl, hY⟩
  have HY : Hid (Below W.heap.size W Y) := (HX.out _).trans (hY.mono (HX.out _).size)
  clear hY C3
  go_wp2_with fail
  go_ret
  exact ⟨rfl, HY.out.alloc HY.out.size _⟩
set_option maxRecDepth 100000 in
theorem app_long (p : Option Addr) (n s : Nat) (pb : Nat) (oa : Option Addr) (m cap : Nat) (Y : World) (hpb : Y.heap[pb]? = some (.cells #[.slice oa m cap] 25 (0, 0))) (hlim : n + m < 9223372036854775807) (hl : 67108864 < n + m) : Calls Try.prog 26 #[.agg #[.pointer p, .int .i64 (n : Int), .int .i64 (s : Int)], .pointer (some ⟨pb, 0, none⟩)] Y fun e w' => e = .returned (.tuple #[.agg #[.pointer none, .int .i64 0, .int .i64 0], .int .i64 1]) ∧ Below Y.heap.size Y w' := by
  have q0 : ∀ a b, ((Y.alloc a).alloc b).cell? ⟨pb, 0, none⟩ = some (.slice oa m cap) := fun a b => below_cell (below2 Y a b) (by rw [cell_of_row _ _ _ _ _ _ hpb]; rfl)
  obtain ⟨N, hN⟩ : ∃ N, n + m = N := ⟨_, rfl⟩
  have w0 : IntKind.i64.wrap ((n : Int) + (m : Int)) = (N : Int) := by rw [IntKind.wrap_i64]; omega
  have w1 : (67108864 : Int) < (N : Int) := by omega
  clear hN hl hlim hpb
  go_enter Try.func26, Try.ntmps26
  go_wp2
  refine bodyPost_ret (results_Ct rfl _ _ (Y.heap.size + 1) _ rfl rfl (row2n _ _ _)) rfl ?_
  exact ⟨rfl, below2 _ _ _⟩
set_option maxRecDepth 100000 in
theorem cut_wrong (p : Option Addr) (n s : Nat) (pb : Nat) (m : Int) (Y : World) (hpb : Y.heap[pb]? = some (.cells #[.int .i64 m] 3 (0, 0))) (hl : m < 0 ∨ (n : Int) < m) : Calls Try.prog 28 #[.agg #[.pointer p, .int .i64 (n : Int), .int .i64 (s : Int)], .pointer (some ⟨pb, 0, none⟩)] Y fun e w' => e = .returned (.tuple #[.agg #[.pointer none, .int .i64 0, .int .i64 0], .int .i64 2]) ∧ Below Y.heap.size Y w' := by
  have q0 : ∀ a b, ((Y.alloc a).alloc b).cell? ⟨pb, 0, none⟩ = some (.int .i64 m) := fun a b => below_cell (below2 Y a b) (by rw [cell_of_row _ _ _ _ _ _ hpb]; rfl)
  clear hpb
  by_cases hm : m < 0
  · clear hl
    go_enter Try.func28, Try.ntmps28
    go_wp2
    refine bodyPost_ret (results_Ct rfl _ _ (Y.heap.size + 1) _ rfl rfl (row2n _ _ _)) rfl ?_
    exact ⟨rfl, below2 _ _ _⟩
  · have hl2 : (n : Int) < m := by omega
    clear hl
    go_enter Try.func28, Try.ntmps28
    go_wp2
    refine bodyPost_ret (results_Ct rfl _ _ (Y.heap.size + 1) _ rfl rfl (row2n _ _ _)) rfl ?_
    exact ⟨rfl, below2 _ _ _⟩
end Go.Proofs.Ytdiflmckjpmngaa
