/- Package card: placeOf, ReadSign, PrintSign. -/
import Derived.Test.YtgimkeklnpppjaaDoorCdT
import Derived.Test.YtgimkeklnpppjaaDoorCdQ
namespace Go.Proofs.YtgimkeklnpppjaaDoor
open Go.RowKit Go.Shelf
/-- One block is written, others stay. -/
structure Tch (g : Nat) (w w' : World) : Prop where
  os : w'.os = w.os
  tape : w'.tape = w.tape
  output : w'.output = w.output
  size : w.heap.size ≤ w'.heap.size
  block : ∀ j, j < w.heap.size → j ≠ g → w'.heap[j]? = w.heap[j]?
theorem tch_set {w X : World} (b : Below w.heap.size w X) (g : Nat) (cs : Array Value) : Tch g w (X.setRow g cs) :=
  ⟨b.os, b.tape, b.output, by have := b.size; simpa using this, fun j hj hne => (setRow_other _ _ _ _ hne).trans (b.block j hj)⟩
theorem Tch.below {g B : Nat} {w0 w w' : World} (h : Tch g w w') (hb : Below B w0 w) (hg : B ≤ g) (hB : B ≤ w.heap.size) (_ : B ≤ w0.heap.size) : Below B w0 w' :=
  ⟨h.os.trans hb.os, h.tape.trans hb.tape, h.output.trans hb.output, Nat.le_trans hb.size h.size, fun j hj => (h.block j (by omega) (by omega)).trans (hb.block j hj)⟩
set_option maxRecDepth 100000 in
set_option maxHeartbeats 3200000 in
theorem placeOf_any (S : Sen) (en pl : Nat) (err : Value) (he : ErP S en pl err) (w : World) (hw : Wd S w) :
    Calls Tryd.prog 12 #[err] w fun e w' => e = .returned (.int .i64 (pl : Int)) ∧ Below w.heap.size w w' := by
  obtain ⟨W0, hW0⟩ : ∃ W0, (w.alloc (.cells #[.nilIface, .int .i64 0, .int .i64 0] 44)).alloc (.cells #[.int .i64 0, .nilIface] 50) = W0 := ⟨_, rfl⟩
  have b0 : Below w.heap.size w W0 := by rw [← hW0]; exact ((Below.refl _ w).alloc (Nat.le_refl _) _).alloc (by simp) _
  have r0 : W0.heap[w.heap.size]? = some (.cells #[.nilIface, .int .i64 0, .int .i64 0] 44 (0, 0)) := by rw [← hW0]; exact (heap_alloc_old _ _ (h := by simp)).trans (heap_alloc_new _ _)
  have r1 : W0.heap[w.heap.size + 1]? = some (.cells #[.int .i64 0, .nilIface] 50 (0, 0)) := by
    rw [← hW0]
    have := heap_alloc_new (w.alloc (.cells #[.nilIface, .int .i64 0, .int .i64 0] 44)) (.cells #[.int .i64 0, .nilIface] 50)
    have hz : (w.alloc (.cells #[.nilIface, .int .i64 0, .int .i64 0] 44)).heap.size = w.heap.size + 1 := by simp
    rw [hz] at this
    exact this
  have z0 : W0.heap.size = w.heap.size + 2 := by rw [← hW0]; simp
  have HW0 : Hid _ := hW0
  have hw0 := hw.below b0
  rcases he with ⟨rfl, rfl, rfl⟩ | ⟨b, at_, a, fld, rfl, hpl, hlim, -⟩
  · have C1 : Hid _ := as_FF S.lo 0 0 w.heap.size _ W0 hw0.et (by have := hw0.sz; omega) r0 rfl
    have C2 : Hid (∀ W1, Tch w.heap.size W0 W1 → Calls Tryd.prog 21 #[.iface 44 (.agg #[.iface 135 (.pointer (some S.lo)), .int .i64 0, .int .i64 0]), .iface 55 (.pointer (some ⟨w.heap.size + 1, 0, none⟩))] W1 fun e w' => e = .returned (.bool false) ∧ Below w.heap.size w w') := fun W1 t1 => by
      have bb := t1.below b0 (Nat.le_refl _) (by omega) (Nat.le_refl _)
      refine Calls.mono (as_FL S.lo 0 0 (w.heap.size + 1) _ W1 (hw.below bb).et (by have := (hw.below bb).sz; omega) ((t1.block _ (by omega) (by omega)).trans r1)) ?_
      rintro e w' ⟨rfl, rfl⟩
      refine ⟨rfl, ?_⟩
      have hs := bb.size
      exact (((bb.alloc (by omega) _).alloc (by simp; omega) _).alloc (by simp; omega) _).alloc (by simp; omega) _
    have HT : Hid (∀ X cs, Below W0.heap.size W0 X → Tch w.heap.size W0 (X.setRow w.heap.size cs)) := fun X cs h => tch_set h _ _
    clear hW0 b0 r0 r1 hw0 hw
    unfold flt fltA
    go_enter Tryd.func12, Tryd.ntmps12
    go_wp2_with fail
    rw [HW0.out]
    refine Calls.mono C1.out ?_
    rintro e W1 ⟨rfl, hW1⟩
    have t1 : Tch w.heap.size W0 W1 := by
      rw [hW1]
      exact HT.out _ _ ((((( Below.refl _ W0).alloc (Nat.le_refl _) _).alloc (by simp) _).alloc (by simp <;> omega) _).alloc (by simp <;> omega) _)
    have C3 : Hid _ := C2.out W1 t1
    clear C1 C2 hW1 t1 z0
    go_wp2_with fail
    refine Calls.mono C3.out ?_
    rintro e W2 ⟨rfl, b2⟩
    have HB : Hid (Below w.heap.size w W2) := b2
    clear C3 b2
    go_wp2
    go_ret
    exact ⟨rfl, HB.out⟩
  · have C1 : Hid _ := as_LF a (b : Int) fld (at_ : Int) w.heap.size _ W0 hw0.et (by have := hw0.sz; omega) r0 rfl
    have HR : Hid (W0.heap[w.heap.size]? = some (.cells #[.nilIface, .int .i64 0, .int .i64 0] 44 (0, 0)) ∧ W0.heap[w.heap.size + 1]? = some (.cells #[.int .i64 0, .nilIface] 50 (0, 0)) ∧ W0.heap.size = w.heap.size + 2 ∧ Below w.heap.size w W0 ∧ Wd S w) := ⟨r0, r1, z0, b0, hw⟩
    have HP : Hid (b + at_ = pl ∧ pl ≤ 262144) := ⟨hpl, hlim⟩
    have w1 : IntKind.i64.wrap ((b : Int) + (at_ : Int)) = (pl : Int) := by rw [IntKind.wrap_i64]; omega
    clear hW0 b0 r0 r1 hw0 hw z0 hpl hlim
    unfold ln lnA flt fltA
    go_enter Tryd.func12, Tryd.ntmps12
    go_wp2_with fail
    rw [HW0.out]
    refine Calls.mono C1.out ?_
    rintro e W1 ⟨rfl, hW1⟩
    obtain ⟨X, hX, bX⟩ : ∃ X, W1 = X.setRow w.heap.size #[.iface 135 (.pointer (some a)), .int .i64 fld, .int .i64 (at_ : Int)] ∧ Below W0.heap.size W0 X := ⟨_, hW1, ((((((Below.refl _ W0).alloc (Nat.le_refl _) _).alloc (by simp) _).alloc (by simp <;> omega) _).alloc (by simp <;> omega) _).alloc (by simp <;> omega) _)⟩
    have t1 : Tch w.heap.size W0 W1 := by rw [hX]; exact tch_set bX _ _
    have f1 : W1.heap[w.heap.size]? = some (.cells #[.iface 135 (.pointer (some a)), .int .i64 fld, .int .i64 (at_ : Int)] 44 (0, 0)) := by
      rw [hX]
      exact setRow_heap _ _ _ _ _ _ ((bX.block _ (by have := HR.out.2.2.1; omega)).trans HR.out.1)
    have bb : Below w.heap.size w W1 := t1.below HR.out.2.2.2.1 (Nat.le_refl _) (by have := HR.out.2.2.1; omega) (Nat.le_refl _)
    have l1 : W1.heap[w.heap.size + 1]? = some (.cells #[.int .i64 0, .nilIface] 50 (0, 0)) := (t1.block _ (by have := HR.out.2.2.1; omega) (by omega)).trans HR.out.2.1
    have C2 : Hid _ := as_LL a (b : Int) fld (at_ : Int) (w.heap.size + 1) _ W1 (HR.out.2.2.2.2.below bb).et (by have := (HR.out.2.2.2.2.below bb).sz; omega) l1 rfl
    have H1 : Hid (W1.heap[w.heap.size]? = some (.cells #[.iface 135 (.pointer (some a)), .int .i64 fld, .int .i64 (at_ : Int)] 44 (0, 0)) ∧ W1.heap[w.heap.size + 1]? = some (.cells #[.int .i64 0, .nilIface] 50 (0, 0)) ∧ Below w.heap.size w W1) := ⟨f1, l1, bb⟩
    clear C1 hW1 hX bX t1 f1 bb l1
    go_wp2_with fail
    refine Calls.mono C2.out ?_
    rintro e W2 ⟨rfl, hW2⟩
    obtain ⟨Y, hY, bY⟩ : ∃ Y, W2 = Y.setRow (w.heap.size + 1) #[.int .i64 (b : Int), .iface 44 (.agg #[.iface 135 (.pointer (some a)), .int .i64 fld, .int .i64 (at_ : Int)])] ∧ Below W1.heap.size W1 Y := ⟨_, hW2, (((((Below.refl _ W1).alloc (Nat.le_refl _) _).alloc (by simp) _).alloc (by simp <;> omega) _).alloc (by simp <;> omega) _)⟩
    have f2 : W2.heap[w.heap.size]? = some (.cells #[.iface 135 (.pointer (some a)), .int .i64 fld, .int .i64 (at_ : Int)] 44 (0, 0)) := by
      rw [hY]
      exact (setRow_other _ _ _ _ (by omega)).trans ((bY.block _ (Array.getElem?_eq_some_iff.1 H1.out.1).1).trans H1.out.1)
    have l2 : W2.heap[w.heap.size + 1]? = some (.cells #[.int .i64 (b : Int), .iface 44 (.agg #[.iface 135 (.pointer (some a)), .int .i64 fld, .int .i64 (at_ : Int)])] 50 (0, 0)) := by
      rw [hY]
      exact setRow_heap _ _ _ _ _ _ ((bY.block _ (Array.getElem?_eq_some_iff.1 H1.out.2.1).1).trans H1.out.2.1)
    have cB : W2.cell? ⟨w.heap.size + 1, 0, none⟩ = some (.int .i64 (b : Int)) := by rw [cell_of_row _ _ _ _ _ _ l2]; rfl
    have cA : W2.cell? ⟨w.heap.size, 2, none⟩ = some (.int .i64 (at_ : Int)) := by rw [cell_of_row _ _ _ _ _ _ f2]; rfl
    have HB : Hid (Below w.heap.size w W2) := by
      rw [hY]
      exact below_setRow (H1.out.2.2.trans (bY.mono H1.out.2.2.size)) (by omega) _
    clear C2 hW2 hY bY f2 l2
    go_wp2
    go_ret
    exact ⟨rfl, HB.out⟩
theorem results_S3 {fn : Func} {p u v : Tmp} (h : fn.results = #[.cell p 23, .tmp u, .tmp v]) (tmps : Array Value) (w : World) (g : Nat) (C : Array Value) (hC : C.size = 3)
    (hp : tmps.getD p undef = .pointer (some ⟨g, 0, none⟩)) (hg : w.heap[g]? = some (.cells C 23 (0, 0))) :
    (results fn tmps).run Tryd.prog w = .ok (.tuple #[.agg C, tmps.getD u undef, tmps.getD v undef]) w := by
  have hp' : tmps[p]?.getD undef = .pointer (some ⟨g, 0, none⟩) := by simpa using hp
  simp [results, h, hp', asAddr, run_loadVar_row w g 23 23 C (0, 0) _ hg Tryd.underlying23 rfl (by rw [sizeSg, hC])]
theorem layS (W : World) (D : Array Value) (hD : D.size = 3) (h1 : D.all (·.oneCell') = true) : ∃ W', (storeR 23 (.pointer (some ⟨W.heap.size, 0, none⟩)) (.agg D)).run Tryd.prog (W.alloc (.cells #[.string ⟨#[]⟩, .bool false, .int .i64 0] 23)) = .ok () W' ∧ W'.heap[W.heap.size]? = some (.cells D 23 (0, 0)) ∧ Below W.heap.size W W' :=
  ⟨_, st_S (W.alloc (.cells #[.string ⟨#[]⟩, .bool false, .int .i64 0] 23)) W.heap.size _ D rfl hD h1 (heap_alloc_new _ _), setRow_heap _ _ _ _ _ _ (heap_alloc_new _ _), below_setRow ((Below.refl _ W).alloc (Nat.le_refl _) _) (Nat.le_refl _) _⟩
/-- What both ReadSign answer. -/
def RdV (l : List UInt8) : Value := .tuple #[.agg (rsV l).2.2.arr, .int .i64 (((rsV l).1 : Nat) : Int), .int .i64 (((rsV l).2.1 : Nat) : Int)]
attribute [local go_sem ↓] toBdS toStS toLdS
set_option maxRecDepth 100000 in
set_option maxHeartbeats 3200000 in
theorem ReadSign_any (s : ByteArray) (S : Sen) (w : World) (hw : Wd S w) :
    Calls Tryd.prog 6 #[.string s] w fun e w' => e = .returned (RdV s.data.toList) ∧ Below w.heap.size w w' := by
  have bS := fun W => bd_S W
  obtain ⟨W0, hW0⟩ : ∃ W0, w.alloc (.cells #[.string ⟨#[]⟩, .bool false, .int .i64 0] 23) = W0 := ⟨_, rfl⟩
  have b0 : Below w.heap.size w W0 := by rw [← hW0]; exact (Below.refl _ w).alloc (Nat.le_refl _) _
  have r0 : W0.heap[w.heap.size]? = some (.cells zS 23 (0, 0)) := by rw [← hW0]; exact heap_alloc_new _ _
  have C : Hid _ := readSign_any s S W0 (hw.below b0)
  obtain ⟨R, hR⟩ : ∃ R, R = rsV s.data.toList := ⟨_, rfl⟩
  have HV : Hid (RdV s.data.toList = .tuple #[.agg R.2.2.arr, .int .i64 ((R.1 : Nat) : Int), .int .i64 ((R.2.1 : Nat) : Int)]) := by show _ = _; rw [hR]; rfl
  unfold RsP at C
  rw [← hR] at C
  have H0 : Hid (Below w.heap.size w W0 ∧ W0.heap[w.heap.size]? = some (.cells zS 23 (0, 0)) ∧ w.heap.size < W0.heap.size ∧ Wd S w) := ⟨b0, r0, (Array.getElem?_eq_some_iff.1 r0).1, hw⟩
  have HW0 : Hid _ := hW0
  clear hW0 b0 r0 hR hw
  go_enter Tryd.func6, Tryd.ntmps6
  go_wp2_with fail
  rw [HW0.out]
  refine Calls.mono C.out ?_
  rintro e W1 ⟨b1, ⟨err, rfl, hz, he⟩ | ⟨h1, h2, rfl⟩⟩
  · obtain ⟨W2, s2, r2, b2⟩ := layS W1 zS rfl zS_one
    have b02 : Below W0.heap.size W0 W2 := b1.trans (b2.mono b1.size)
    have bw2 : Below w.heap.size w W2 := H0.out.1.trans (b02.mono H0.out.1.size)
    have CE : Hid _ := errnoOf_any S _ _ err he W2 (H0.out.2.2.2.below bw2)
    have H2 : Hid (Below w.heap.size w W2 ∧ W2.heap[w.heap.size]? = some (.cells zS 23 (0, 0)) ∧ w.heap.size < W2.heap.size) := ⟨bw2, (b02.block _ H0.out.2.2.1).trans H0.out.2.1, Nat.lt_of_lt_of_le H0.out.2.2.1 b02.size⟩
    have HE : Hid (ErP S R.1 R.2.1 err) := he
    have HZ : Hid (R.2.2 = zSg) := hz
    obtain ⟨te, pe, hte⟩ : ∃ te pe, err = .iface te pe := by
      rcases he with ⟨-, -, rfl⟩ | ⟨_, _, _, _, rfl, -⟩
      · exact ⟨_, _, rfl⟩
      · exact ⟨_, _, rfl⟩
    subst hte
    clear C b1 b2 b02 bw2 r2 he hz
    go_wp2_with fail
    refine Calls.mono CE.out ?_
    rintro e W3 ⟨rfl, b3⟩
    have bw3 : Below w.heap.size w W3 := H2.out.1.trans (b3.mono H2.out.1.size)
    have CP : Hid _ := placeOf_any S _ _ _ HE.out W3 (H0.out.2.2.2.below bw3)
    have H3 : Hid (Below w.heap.size w W3 ∧ W3.heap[w.heap.size]? = some (.cells zS 23 (0, 0)) ∧ w.heap.size < W3.heap.size) := ⟨bw3, (b3.block _ H2.out.2.2).trans H2.out.2.1, Nat.lt_of_lt_of_le H2.out.2.2 b3.size⟩
    clear CE b3 bw3
    go_wp2_with fail
    refine Calls.mono CP.out ?_
    rintro e W4 ⟨rfl, b4⟩
    have r4 : W4.heap[w.heap.size]? = some (.cells zS 23 (0, 0)) := (b4.block _ H3.out.2.2).trans H3.out.2.1
    have bw4 : Below w.heap.size w W4 := H3.out.1.trans (b4.mono H3.out.1.size)
    have st := st_S W4 w.heap.size zS zS rfl rfl zS_one r4
    have HF : Hid ((W4.setRow w.heap.size zS).heap[w.heap.size]? = some (.cells zS 23 (0, 0)) ∧ Below w.heap.size w (W4.setRow w.heap.size zS)) := ⟨setRow_heap _ _ _ _ _ _ r4, below_setRow bw4 (Nat.le_refl _) _⟩
    clear CP b4 r4 bw4 s2
    go_wp2
    refine bodyPost_ret (results_S3 rfl _ _ w.heap.size zS rfl rfl HF.out.1) rfl ⟨?_, HF.out.2⟩
    rw [HV.out, HZ.out]
    rfl
  · obtain ⟨C3, hC3⟩ : ∃ C3, C3 = R.2.2.arr := ⟨_, rfl⟩
    have hz3 : C3.size = 3 := by rw [hC3]; rfl
    have ho3 : C3.all (·.oneCell') = true := by rw [hC3]; exact sg_one _
    rw [← hC3]
    obtain ⟨W2, s2, r2, b2⟩ := layS W1 C3 hz3 ho3
    have b02 : Below W0.heap.size W0 W2 := b1.trans (b2.mono b1.size)
    have bw2 : Below w.heap.size w W2 := H0.out.1.trans (b02.mono H0.out.1.size)
    have q2 : W2.heap[w.heap.size]? = some (.cells zS 23 (0, 0)) := (b02.block _ H0.out.2.2.1).trans H0.out.2.1
    have ld := ld_S W2 W1.heap.size C3 hz3 r2
    have st := st_S W2 w.heap.size zS C3 rfl hz3 ho3 q2
    have HF : Hid ((W2.setRow w.heap.size C3).heap[w.heap.size]? = some (.cells C3 23 (0, 0)) ∧ Below w.heap.size w (W2.setRow w.heap.size C3) ∧ C3.size = 3) := ⟨setRow_heap _ _ _ _ _ _ q2, below_setRow bw2 (Nat.le_refl _) _, hz3⟩
    have HZ : Hid (R.1 = 0 ∧ R.2.1 = 0 ∧ C3 = R.2.2.arr) := ⟨h1, h2, hC3⟩
    clear C b1 b2 b02 bw2 r2 q2 h1 h2 hC3 hz3 ho3
    go_wp2
    refine bodyPost_ret (results_S3 rfl _ _ w.heap.size C3 HF.out.2.2 rfl HF.out.1) rfl ⟨?_, HF.out.2.1⟩
    rw [HV.out, HZ.out.1, HZ.out.2.1, HZ.out.2.2]
    rfl
end Go.Proofs.YtgimkeklnpppjaaDoor
