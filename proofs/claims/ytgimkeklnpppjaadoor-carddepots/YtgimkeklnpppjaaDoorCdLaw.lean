/- CardDepots: the law's walk. -/
import Derived.Test.YtgimkeklnpppjaaDoorCdZ
import Derived.Laws.StructEq
namespace Go.Proofs.YtgimkeklnpppjaaDoor
open Go.RowKit Go.Shelf
theorem pst_two (st : ByteArray) (m : Bool) (pr : Int) : ∃ (t : ByteArray) (n : Int), PsV st m pr = .tuple #[.string t, .int .i64 n] := by
  unfold PsV
  split
  · exact ⟨_, _, rfl⟩
  · exact ⟨_, _, rfl⟩
attribute [local go_sem ↓] toStS toLdS
set_option maxRecDepth 100000 in
set_option maxHeartbeats 6400000 in
theorem depots_any (st : ByteArray) (m : Bool) (pr : Int) (s : ByteArray) (S : Sen) (w : World) (hw : Wd S w) :
    Calls Tryd.prog 3 #[.agg (sgA st m pr), .string s] w fun e w' => e = .returned (.bool true) ∧ Below w.heap.size w w' := by
  obtain ⟨W0, hW0⟩ : ∃ W0, w.alloc (.cells (sgA st m pr) 23) = W0 := ⟨_, rfl⟩
  have b0 : Below w.heap.size w W0 := by rw [← hW0]; exact (Below.refl _ w).alloc (Nat.le_refl _) _
  have r0 : W0.heap[w.heap.size]? = some (.cells (sgA st m pr) 23 (0, 0)) := by rw [← hW0]; exact heap_alloc_new _ _
  have ld := ld_S W0 w.heap.size (sgA st m pr) rfl r0
  obtain ⟨t, n, hPs⟩ := pst_two st m pr
  have C1 : Hid (Calls Tryd.prog 4 #[.agg (sgA st m pr)] W0 fun e w' => e = .returned (.tuple #[.string t, .int .i64 n]) ∧ Below W0.heap.size W0 w') := by rw [← hPs]; exact PrintSign_any st m pr S W0 (hw.below b0)
  have C2 : Hid (∀ W, Calls Tryd.prog 5 #[.agg (sgA st m pr)] W fun e w' => e = .returned (.tuple #[.string t, .int .i64 n]) ∧ Below W.heap.size W w') := fun W => by rw [← hPs]; exact PrintSignR_any st m pr W
  obtain ⟨a, ha⟩ : ∃ a, a = (rsV s.data.toList).2.2.st := ⟨_, rfl⟩
  obtain ⟨b, hb⟩ : ∃ b, b = (rsV s.data.toList).2.2.m := ⟨_, rfl⟩
  obtain ⟨c, hc⟩ : ∃ c : Int, c = (((rsV s.data.toList).2.2.pr : Nat) : Int) := ⟨_, rfl⟩
  obtain ⟨en, hen⟩ : ∃ en : Int, en = (((rsV s.data.toList).1 : Nat) : Int) := ⟨_, rfl⟩
  obtain ⟨pl, hpl⟩ : ∃ pl : Int, pl = (((rsV s.data.toList).2.1 : Nat) : Int) := ⟨_, rfl⟩
  have hRd : RdV s.data.toList = .tuple #[.agg (sgA a b c), .int .i64 en, .int .i64 pl] := by rw [ha, hb, hc, hen, hpl]; rfl
  have C3 : Hid (∀ W, Below w.heap.size w W → Calls Tryd.prog 6 #[.string s] W fun e w' => e = .returned (.tuple #[.agg (sgA a b c), .int .i64 en, .int .i64 pl]) ∧ Below W.heap.size W w') := fun W b => by rw [← hRd]; exact ReadSign_any s S W (hw.below b)
  have C4 : Hid (∀ W, Calls Tryd.prog 7 #[.string s] W fun e w' => e = .returned (.tuple #[.agg (sgA a b c), .int .i64 en, .int .i64 pl]) ∧ Below W.heap.size W w') := fun W => by rw [← hRd]; exact ReadSignR_any s W
  have H0 : Hid (Below w.heap.size w W0 ∧ W0.heap[w.heap.size]? = some (.cells (sgA st m pr) 23 (0, 0)) ∧ w.heap.size < W0.heap.size) := ⟨b0, r0, (Array.getElem?_eq_some_iff.1 r0).1⟩
  have HW0 : Hid _ := hW0
  rw [← hW0] at ld
  clear hW0 b0 r0 hw hPs hRd ha hb hc hen hpl
  unfold sgA at *
  go_enter Tryd.func3, Tryd.ntmps3
  go_wp2_with fail
  rw [HW0.out]
  refine Calls.mono C1.out ?_
  rintro e W1 ⟨rfl, b1⟩
  have bw1 : Below w.heap.size w W1 := H0.out.1.trans (b1.mono H0.out.1.size)
  have r1 := (b1.block _ H0.out.2.2).trans H0.out.2.1
  have ld1 := ld_S W1 w.heap.size _ rfl r1
  have H1 : Hid (Below w.heap.size w W1) := bw1
  clear C1 b1 bw1 r1 ld
  go_wp2_with fail
  refine Calls.mono (C2.out _) ?_
  rintro e W2 ⟨rfl, b2⟩
  have bw2 : Below w.heap.size w W2 := H1.out.trans (b2.mono H1.out.size)
  have H2 : Hid (Below w.heap.size w W2) := bw2
  clear C2 b2 bw2 ld1
  go_wp2_with fail
  refine Calls.mono (C3.out _ H2.out) ?_
  rintro e W3 ⟨rfl, b3⟩
  have bw3 : Below w.heap.size w W3 := H2.out.trans (b3.mono H2.out.size)
  have hCz : #[Value.string a, .bool b, .int .i64 c].size = 3 := rfl
  have hCo : #[Value.string a, .bool b, .int .i64 c].all (·.oneCell') = true := by simp [Value.oneCell']
  obtain ⟨W4, s4, r4, b4⟩ := layS W3 _ hCz hCo
  have bw4 : Below w.heap.size w W4 := bw3.trans (b4.mono bw3.size)
  have H4 : Hid (Below w.heap.size w W4 ∧ W4.heap[W3.heap.size]? = some (.cells #[.string a, .bool b, .int .i64 c] 23 (0, 0)) ∧ W3.heap.size < W4.heap.size) := ⟨bw4, r4, (Array.getElem?_eq_some_iff.1 r4).1⟩
  clear C3 b3 bw3 b4 bw4 r4
  go_wp2_with fail
  refine Calls.mono (C4.out _) ?_
  rintro e W5 ⟨rfl, b5⟩
  have bw5 : Below w.heap.size w W5 := H4.out.1.trans (b5.mono H4.out.1.size)
  have r5 := (b5.block _ H4.out.2.2).trans H4.out.2.1
  have z5 : W3.heap.size < W5.heap.size := Nat.lt_of_lt_of_le H4.out.2.2 b5.size
  obtain ⟨W6, s6, r6, b6⟩ := layS W5 _ hCz hCo
  have bw6 : Below w.heap.size w W6 := bw5.trans (b6.mono bw5.size)
  have r7 := (b6.block _ z5).trans r5
  have l1 := ld_S W6 W3.heap.size _ hCz r7
  have l2 := ld_S W6 W5.heap.size _ hCz r6
  have H6 : Hid (Below w.heap.size w W6) := bw6
  clear C4 b5 bw5 b6 bw6 r5 r6 r7 z5 s4 hCo hCz
  go_wp2
  go_ret
  exact ⟨rfl, H6.out⟩
end Go.Proofs.YtgimkeklnpppjaaDoor
