/- Package card: errnoOf, placeOf. -/
import Derived.Test.YtgimkeklnpppjaaDoorCdF
import Derived.Test.YtgimkeklnpppjaaDoorCdH
import Derived.Test.YtgimkeklnpppjaaDoorCdP
namespace Go.Proofs.YtgimkeklnpppjaaDoor
open Go.RowKit Go.Shelf
theorem is_ln (a b : Addr) (beg fld at_ : Int) (w : World) (ha : ∃ c t, w.heap[a.block]? = some (.cells c t (0, 0))) (hb : ∃ c t, w.heap[b.block]? = some (.cells c t (0, 0))) :
    Calls Tryd.prog 20 #[ln beg (flt a fld at_), .iface 135 (.pointer (some b))] w fun e w' => e = .returned (.bool (decide (a = b))) ∧ Below w.heap.size w w' := by
  by_cases h : a = b
  · subst h
    refine Calls.mono (isL_same a beg fld at_ w) ?_
    rintro e w' ⟨rfl, rfl⟩
    exact ⟨by simp, ((Below.refl _ w).alloc (Nat.le_refl _) _).alloc (by simp) _⟩
  · obtain ⟨ca, ta, ha⟩ := ha
    obtain ⟨cb, tb, hb⟩ := hb
    refine Calls.mono (isL_other a b beg fld at_ w h ca cb ta tb ha hb) ?_
    rintro e w' ⟨rfl, rfl⟩
    exact ⟨by rw [decide_eq_false h], ((Below.refl _ w).alloc (Nat.le_refl _) _).alloc (by simp) _⟩
theorem nodup_ne {S : Sen} (h : [S.lo, S.ta, S.sh, S.li, S.ma, S.fi].Nodup) : S.sh ≠ S.lo ∧ S.ta ≠ S.lo ∧ S.li ≠ S.lo ∧ S.fi ≠ S.lo ∧ S.ta ≠ S.sh ∧ S.li ≠ S.sh ∧ S.fi ≠ S.sh ∧ S.li ≠ S.ta ∧ S.fi ≠ S.ta ∧ S.fi ≠ S.li ∧ S.fi ≠ S.ma := by
  simp only [List.nodup_cons, List.mem_cons, List.not_mem_nil, or_false, not_or, not_false_eq_true, List.nodup_nil, and_true] at h
  obtain ⟨⟨h1, h2, h3, h4, h5⟩, ⟨h6, h7, h8, h9⟩, ⟨h10, h11, h12⟩, ⟨h13, h14⟩, h15⟩ := h
  exact ⟨Ne.symm h2, Ne.symm h1, Ne.symm h3, Ne.symm h5, h6, Ne.symm h10, Ne.symm h12, Ne.symm h7, Ne.symm h9, Ne.symm h14, Ne.symm h15⟩
set_option maxRecDepth 100000 in
set_option maxHeartbeats 3200000 in
theorem errnoOf_any (S : Sen) (en pl : Nat) (err : Value) (he : ErP S en pl err) (w : World) (hw : Wd S w) :
    Calls Tryd.prog 11 #[err] w fun e w' => e = .returned (.int .i64 (en : Int)) ∧ Below w.heap.size w w' := by
  rcases he with ⟨rfl, rfl, rfl⟩ | ⟨b, at_, a, fld, rfl, -, -, hcase⟩
  · have lo := hw.lo
    have C : Hid _ := isF_same S.lo 0 0 w
    have HB : Hid (Below w.heap.size w (w.alloc (.cells #[.iface 135 (.pointer (some S.lo)), .int .i64 0, .int .i64 0] 44))) := (Below.refl _ w).alloc (Nat.le_refl _) _
    clear hw
    unfold flt fltA
    go_enter Tryd.func11, Tryd.ntmps11
    go_wp2_with fail
    refine Calls.mono C.out ?_
    rintro e W1 ⟨rfl, rfl⟩
    clear C lo
    go_wp2
    go_ret
    exact ⟨rfl, HB.out⟩
  · have ND := nodup_ne hw.dif
    have HI : Hid (∀ W c, Wd S W → (c = S.lo ∨ c = S.ta ∨ c = S.sh ∨ c = S.li ∨ c = S.ma ∨ c = S.fi) → Calls Tryd.prog 20 #[ln (b : Int) (flt a fld (at_ : Int)), .iface 135 (.pointer (some c))] W fun e w' => e = .returned (.bool (decide (a = c))) ∧ Below W.heap.size W w') := fun W c hW hc => is_ln a c _ _ _ W (hW.rows a (by rcases hcase with ⟨-, h⟩ | ⟨-, h⟩ | ⟨-, h⟩ | ⟨-, h⟩ <;> simp [h])) (hW.rows c hc)
    have HW : Hid (Wd S w) := hw
    obtain ⟨ev, hev⟩ : ∃ ev, ev = Value.agg (lnA (b : Int) (flt a fld (at_ : Int))) := ⟨_, rfl⟩
    have hln : ln (b : Int) (flt a fld (at_ : Int)) = .iface 50 ev := by rw [hev]; rfl
    rw [hln] at HI ⊢
    have lo := hw.lo
    clear hev hln hw
    have C1 : Hid _ := HI.out w S.lo HW.out (by simp)
    rcases hcase with ⟨rfl, rfl⟩ | ⟨rfl, rfl⟩ | ⟨rfl, rfl⟩ | ⟨rfl, rfl⟩
    · rw [decide_eq_false ND.1] at C1
      go_enter Tryd.func11, Tryd.ntmps11
      go_wp2_with fail
      refine Calls.mono C1.out ?_
      rintro e W1 ⟨rfl, b1⟩
      have hw1 := HW.out.below b1
      have sh := hw1.sh
      have C2 : Hid _ := HI.out W1 S.sh hw1 (by simp)
      rw [decide_eq_true rfl] at C2
      have HB1 : Hid (Below w.heap.size w W1) := b1
      clear C1 lo b1 hw1
      go_wp2_with fail
      refine Calls.mono C2.out ?_
      rintro e W2 ⟨rfl, b2⟩
      have HB2 : Hid (Below w.heap.size w W2) := HB1.out.trans (b2.mono HB1.out.size)
      clear C2 sh b2
      go_wp2
      go_ret
      exact ⟨rfl, HB2.out⟩
    · rw [decide_eq_false ND.2.1] at C1
      go_enter Tryd.func11, Tryd.ntmps11
      go_wp2_with fail
      refine Calls.mono C1.out ?_
      rintro e W1 ⟨rfl, b1⟩
      have hw1 := HW.out.below b1
      have sh := hw1.sh
      have C2 : Hid _ := HI.out W1 S.sh hw1 (by simp)
      rw [decide_eq_false ND.2.2.2.2.1] at C2
      have HB1 : Hid (Below w.heap.size w W1) := b1
      clear C1 lo b1 hw1
      go_wp2_with fail
      refine Calls.mono C2.out ?_
      rintro e W2 ⟨rfl, b2⟩
      have HB2 : Hid (Below w.heap.size w W2) := HB1.out.trans (b2.mono HB1.out.size)
      have hw2 := HW.out.below HB2.out
      have ta := hw2.ta
      have C3 : Hid _ := HI.out W2 S.ta hw2 (by simp)
      rw [decide_eq_true rfl] at C3
      clear C2 sh b2 hw2
      go_wp2_with fail
      refine Calls.mono C3.out ?_
      rintro e W3 ⟨rfl, b3⟩
      have HB3 : Hid (Below w.heap.size w W3) := HB2.out.trans (b3.mono HB2.out.size)
      clear C3 ta b3
      go_wp2
      go_ret
      exact ⟨rfl, HB3.out⟩
    · rw [decide_eq_false ND.2.2.1] at C1
      go_enter Tryd.func11, Tryd.ntmps11
      go_wp2_with fail
      refine Calls.mono C1.out ?_
      rintro e W1 ⟨rfl, b1⟩
      have hw1 := HW.out.below b1
      have sh := hw1.sh
      have C2 : Hid _ := HI.out W1 S.sh hw1 (by simp)
      rw [decide_eq_false ND.2.2.2.2.2.1] at C2
      have HB1 : Hid (Below w.heap.size w W1) := b1
      clear C1 lo b1 hw1
      go_wp2_with fail
      refine Calls.mono C2.out ?_
      rintro e W2 ⟨rfl, b2⟩
      have HB2 : Hid (Below w.heap.size w W2) := HB1.out.trans (b2.mono HB1.out.size)
      have hw2 := HW.out.below HB2.out
      have ta := hw2.ta
      have C3 : Hid _ := HI.out W2 S.ta hw2 (by simp)
      rw [decide_eq_false ND.2.2.2.2.2.2.2.1] at C3
      clear C2 sh b2 hw2
      go_wp2_with fail
      refine Calls.mono C3.out ?_
      rintro e W3 ⟨rfl, b3⟩
      have HB3 : Hid (Below w.heap.size w W3) := HB2.out.trans (b3.mono HB2.out.size)
      have hw3 := HW.out.below HB3.out
      have li := hw3.li
      have C4 : Hid _ := HI.out W3 S.li hw3 (by simp)
      rw [decide_eq_true rfl] at C4
      clear C3 ta b3 hw3
      go_wp2_with fail
      refine Calls.mono C4.out ?_
      rintro e W4 ⟨rfl, b4⟩
      have HB4 : Hid (Below w.heap.size w W4) := HB3.out.trans (b4.mono HB3.out.size)
      clear C4 li b4
      go_wp2
      go_ret
      exact ⟨rfl, HB4.out⟩
    · rw [decide_eq_false ND.2.2.2.1] at C1
      go_enter Tryd.func11, Tryd.ntmps11
      go_wp2_with fail
      refine Calls.mono C1.out ?_
      rintro e W1 ⟨rfl, b1⟩
      have hw1 := HW.out.below b1
      have sh := hw1.sh
      have C2 : Hid _ := HI.out W1 S.sh hw1 (by simp)
      rw [decide_eq_false ND.2.2.2.2.2.2.1] at C2
      have HB1 : Hid (Below w.heap.size w W1) := b1
      clear C1 lo b1 hw1
      go_wp2_with fail
      refine Calls.mono C2.out ?_
      rintro e W2 ⟨rfl, b2⟩
      have HB2 : Hid (Below w.heap.size w W2) := HB1.out.trans (b2.mono HB1.out.size)
      have hw2 := HW.out.below HB2.out
      have ta := hw2.ta
      have C3 : Hid _ := HI.out W2 S.ta hw2 (by simp)
      rw [decide_eq_false ND.2.2.2.2.2.2.2.2.1] at C3
      clear C2 sh b2 hw2
      go_wp2_with fail
      refine Calls.mono C3.out ?_
      rintro e W3 ⟨rfl, b3⟩
      have HB3 : Hid (Below w.heap.size w W3) := HB2.out.trans (b3.mono HB2.out.size)
      have hw3 := HW.out.below HB3.out
      have li := hw3.li
      have C4 : Hid _ := HI.out W3 S.li hw3 (by simp)
      rw [decide_eq_false ND.2.2.2.2.2.2.2.2.2.1] at C4
      clear C3 ta b3 hw3
      go_wp2_with fail
      refine Calls.mono C4.out ?_
      rintro e W4 ⟨rfl, b4⟩
      have HB4 : Hid (Below w.heap.size w W4) := HB3.out.trans (b4.mono HB3.out.size)
      have hw4 := HW.out.below HB4.out
      have ma := hw4.ma
      have C5 : Hid _ := HI.out W4 S.ma hw4 (by simp)
      rw [decide_eq_false ND.2.2.2.2.2.2.2.2.2.2] at C5
      clear C4 li b4 hw4
      go_wp2_with fail
      refine Calls.mono C5.out ?_
      rintro e W5 ⟨rfl, b5⟩
      have HB5 : Hid (Below w.heap.size w W5) := HB4.out.trans (b5.mono HB4.out.size)
      clear C5 ma b5
      go_wp2
      go_ret
      exact ⟨rfl, HB5.out⟩
end Go.Proofs.YtgimkeklnpppjaaDoor
