/- NoteInts: the law. -/
import Derived.Test.YtnljnknnjahjkaaNiX
import Derived.Test.YtnljnknnjahjkaaNiS
namespace Go.Proofs.Ytnljnknnjahjkaa
open Go.RowKit
attribute [local go_sem ↓] toLdN toStN
theorem results_N2 {fn : Func} {p u : Tmp} (h : fn.results = #[.cell p 26, .tmp u]) (tmps : Array Value) (w : World) (g : Nat) (C : Array Value) (hC : C.size = 6)
    (hp : tmps.getD p undef = .pointer (some ⟨g, 0, none⟩)) (hg : w.heap[g]? = some (.cells C 26 (0, 0))) :
    (results fn tmps).run Try.prog w = .ok (.tuple #[.agg C, tmps.getD u undef]) w := by
  have hp' : tmps[p]?.getD undef = .pointer (some ⟨g, 0, none⟩) := by simpa using hp
  simp [results, h, hp', asAddr, run_loadVar_row w g 26 26 C (0, 0) _ hg Try.underlying26 rfl (by rw [sizeN, hC])]
theorem Nt.form {B : Nat} {W : World} : ∀ {k : Nat} {c : Array Value}, Nt B W k c → ∃ kd b x s L F, c = noteA kd b x s L F ∧ isSl L ∧ isSl F
  | 0, _, h => h.elim
  | _ + 1, _, ⟨kd, b, x, s, L, F, _, _, h, ⟨_, _, hL, _⟩, ⟨_, _, hF, _⟩, _⟩ => ⟨kd, b, x, s, L, F, h, ⟨_, _, _, hL⟩, ⟨_, _, _, hF⟩⟩
def D4P (B k : Nat) (c : Array Value) (W : World) (e : Ending) (w' : World) : Prop :=
  ∃ kd b x s L F L' F' ok, c = noteA kd b x s L F ∧ isSl L' ∧ isSl F' ∧ e = .returned (.tuple #[.agg (noteA kd b x s L' F'), .bool ok]) ∧ Below W.heap.size W w' ∧ (ok = true → Tw B (fun g => W.heap.size ≤ g ∧ g < w'.heap.size) w' k (noteA kd b x s L' F') c)
set_option maxRecDepth 100000 in
set_option maxHeartbeats 3200000 in
theorem deep4_any (B k : Nat) (c : Array Value) (W : World) (hBW : B ≤ W.heap.size) (h : Nt B W k c) : Calls Try.prog 4 #[.agg c] W (D4P B k c W) := by
  obtain ⟨kd, b, x, s, L, F, rfl, ⟨oL, nL, cL, rfl⟩, ⟨oF, nF, cF, rfl⟩⟩ := h.form
  obtain ⟨W2, hW2⟩ : ∃ W2, ((W.alloc (.cells (noteA kd b x s (.slice oL nL cL) (.slice oF nF cF)) 26)).alloc (.cells zN 26)).alloc (.cells #[.int .i64 70000] 35) = W2 := ⟨_, rfl⟩
  have z1 : (W.alloc (.cells (noteA kd b x s (.slice oL nL cL) (.slice oF nF cF)) 26)).heap.size = W.heap.size + 1 := by simp
  have z2 : ((W.alloc (.cells (noteA kd b x s (.slice oL nL cL) (.slice oF nF cF)) 26)).alloc (.cells zN 26)).heap.size = W.heap.size + 2 := by simp
  have z3 : W2.heap.size = W.heap.size + 3 := by rw [← hW2]; simp
  have bW : Below W.heap.size W W2 := by rw [← hW2]; exact (((Below.refl _ W).alloc (Nat.le_refl _) _).alloc (by simp) _).alloc (by simp; omega) _
  have r0 : W2.heap[W.heap.size]? = some (.cells (noteA kd b x s (.slice oL nL cL) (.slice oF nF cF)) 26 (0, 0)) := by rw [← hW2]; exact ((heap_alloc_old _ _ (h := by simp; omega)).trans (heap_alloc_old _ _ (h := by simp))).trans (heap_alloc_new _ _)
  have r1 : W2.heap[W.heap.size + 1]? = some (.cells zN 26 (0, 0)) := by
    rw [← hW2]
    have := heap_alloc_new (W.alloc (.cells (noteA kd b x s (.slice oL nL cL) (.slice oF nF cF)) 26)) (.cells zN 26)
    rw [z1] at this
    exact (heap_alloc_old _ _ (h := by rw [z2]; omega)).trans this
  have r2 : W2.heap[W.heap.size + 2]? = some (.cells #[.int .i64 70000] 35 (0, 0)) := by
    rw [← hW2]
    have := heap_alloc_new ((W.alloc (.cells (noteA kd b x s (.slice oL nL cL) (.slice oF nF cF)) 26)).alloc (.cells zN 26)) (.cells #[.int .i64 70000] 35)
    rw [z2] at this
    exact this
  have C : Hid _ := deep_any B k _ 0 (W.heap.size + 2) 70000 W2 (by omega) (by omega) (by omega) (by omega) (by omega) r2 (h.keep fun j hj => bW.block j (by omega))
  have ld := ld_row W2 W.heap.size _ rfl r0
  have HW : Hid (((W.alloc (.cells (noteA kd b x s (.slice oL nL cL) (.slice oF nF cF)) 26)).alloc (.cells zN 26)).alloc (.cells #[.int .i64 70000] 35) = W2) := hW2
  have HR : Hid (W2.heap[W.heap.size]? = some (.cells (noteA kd b x s (.slice oL nL cL) (.slice oF nF cF)) 26 (0, 0)) ∧ W2.heap[W.heap.size + 1]? = some (.cells zN 26 (0, 0)) ∧ W2.heap.size = W.heap.size + 3 ∧ Below W.heap.size W W2) := ⟨r0, r1, z3, bW⟩
  rw [← hW2] at ld
  clear hW2 z1 z2 z3 bW r0 r1 r2 h
  have HBW : Hid (B ≤ W.heap.size) := hBW
  clear hBW
  unfold noteA zN at *
  go_enter Try.func4, Try.ntmps4
  go_wp2_with fail
  rw [HW.out]
  refine Calls.mono C.out ?_
  rintro e X ⟨kd', b', x', s', L0, F0, L', F', q, hce, ⟨o1, m1, e1, rfl⟩, ⟨o2, m2, e2, rfl⟩, rfl, hcb, hq1, hq2, ht, hTw⟩
  obtain ⟨rfl, rfl, rfl, rfl, rfl, rfl⟩ : kd = kd' ∧ b = b' ∧ x = x' ∧ s = s' ∧ .slice oL nL cL = L0 ∧ .slice oF nF cF = F0 := by
    have := congrArg Array.toList hce
    simp only [noteA, List.cons.injEq, Value.int.injEq, Value.bool.injEq, Value.float.injEq, Value.string.injEq, true_and, and_true] at this
    obtain ⟨q1, q2, q3, q4, q5, q6⟩ := this
    exact ⟨q1, q2, q3, q4, q5, q6⟩
  clear hce
  have hz := HR.out.2.2.1
  have hBW := HBW.out
  have hzX := ht.size
  have kp : ∀ j, j < W.heap.size + 2 → X.heap[j]? = W2.heap[j]? := fun j hj => ht.block j (by omega) (by omega)
  obtain ⟨X1, hX1⟩ : ∃ X1, X.alloc (.cells zN 26) = X1 := ⟨_, rfl⟩
  have n1 : X1.heap[X.heap.size]? = some (.cells zN 26 (0, 0)) := by rw [← hX1]; exact heap_alloc_new _ _
  have o1' : ∀ j, j < X.heap.size → X1.heap[j]? = X.heap[j]? := fun j hj => by rw [← hX1]; exact heap_alloc_old _ _ (h := hj)
  have st1 := st_N X1 X.heap.size zN (noteA kd b x s (.slice o1 m1 e1) (.slice o2 m2 e2)) rfl rfl (note_one _ _ _ _ _ _ ⟨_, _, _, rfl⟩ ⟨_, _, _, rfl⟩) n1
  obtain ⟨X2, hX2⟩ : ∃ X2, X1.setRow X.heap.size (noteA kd b x s (.slice o1 m1 e1) (.slice o2 m2 e2)) = X2 := ⟨_, rfl⟩
  have n2 : X2.heap[X.heap.size]? = some (.cells (noteA kd b x s (.slice o1 m1 e1) (.slice o2 m2 e2)) 26 (0, 0)) := by rw [← hX2]; exact setRow_heap _ _ _ _ _ _ n1
  have o2' : ∀ j, j < X.heap.size → X2.heap[j]? = X.heap[j]? := fun j hj => by rw [← hX2]; exact (setRow_other _ _ _ _ (by omega)).trans (o1' j hj)
  have zX2 : X2.heap.size = X.heap.size + 1 := by rw [← hX2, ← hX1]; simp
  have cq : X2.cell? ⟨W.heap.size + 2, 0, none⟩ = some (.int .i64 q) := by rw [cell_of_row _ _ _ _ _ _ ((o2' _ (by omega)).trans hcb)]; rfl
  have g0 : X2.heap[W.heap.size]? = some (.cells (noteA kd b x s (.slice oL nL cL) (.slice oF nF cF)) 26 (0, 0)) := (o2' _ (by omega)).trans ((kp _ (by omega)).trans HR.out.1)
  have g1 : X2.heap[W.heap.size + 1]? = some (.cells zN 26 (0, 0)) := (o2' _ (by omega)).trans ((kp _ (by omega)).trans HR.out.2.1)
  have ldA := ld_row X2 W.heap.size _ rfl g0
  have ldB := ld_row X2 X.heap.size _ rfl n2
  have stA := st_N X2 (W.heap.size + 1) zN (noteA kd b x s (.slice oL nL cL) (.slice oF nF cF)) rfl rfl (note_one _ _ _ _ _ _ ⟨_, _, _, rfl⟩ ⟨_, _, _, rfl⟩) g1
  have stB := st_N X2 (W.heap.size + 1) zN (noteA kd b x s (.slice o1 m1 e1) (.slice o2 m2 e2)) rfl rfl (note_one _ _ _ _ _ _ ⟨_, _, _, rfl⟩ ⟨_, _, _, rfl⟩) g1
  have HB : Hid (∀ D, Below W.heap.size W (X2.setRow (W.heap.size + 1) D)) := fun D => by
    have b2 := HR.out.2.2.2
    have e1 : X2.os = X.os ∧ X2.tape = X.tape ∧ X2.output = X.output := by rw [← hX2, ← hX1]; exact ⟨rfl, rfl, rfl⟩
    refine ⟨e1.1.trans (ht.os.trans b2.os), e1.2.1.trans (ht.tape.trans b2.tape), e1.2.2.trans (ht.output.trans b2.output), by simp; omega, fun j hj => ?_⟩
    exact (setRow_other _ _ _ _ (by omega)).trans ((o2' j (by omega)).trans ((kp j (by omega)).trans (b2.block j hj)))
  have HA : Hid ((X2.setRow (W.heap.size + 1) (noteA kd b x s (.slice oL nL cL) (.slice oF nF cF))).heap[W.heap.size + 1]? = some (.cells (noteA kd b x s (.slice oL nL cL) (.slice oF nF cF)) 26 (0, 0)) ∧ (X2.setRow (W.heap.size + 1) (noteA kd b x s (.slice o1 m1 e1) (.slice o2 m2 e2))).heap[W.heap.size + 1]? = some (.cells (noteA kd b x s (.slice o1 m1 e1) (.slice o2 m2 e2)) 26 (0, 0))) := ⟨setRow_heap _ _ _ _ _ _ g1, setRow_heap _ _ _ _ _ _ g1⟩
  have HT : Hid (0 ≤ q → Tw B (fun g => W.heap.size ≤ g ∧ g < (X2.setRow (W.heap.size + 1) (noteA kd b x s (.slice o1 m1 e1) (.slice o2 m2 e2))).heap.size) (X2.setRow (W.heap.size + 1) (noteA kd b x s (.slice o1 m1 e1) (.slice o2 m2 e2))) k (noteA kd b x s (.slice o1 m1 e1) (.slice o2 m2 e2)) (noteA kd b x s (.slice oL nL cL) (.slice oF nF cF))) := fun h0 =>
    (hTw h0).keep (fun j hj => (setRow_other _ _ _ _ (by omega)).trans (o2' j (by omega))) (fun j hj => (setRow_other _ _ _ _ (by have := hj.1; omega)).trans (o2' j hj.2)) (fun j hj => ⟨by have := hj.1; omega, by have := hj.2; simp; omega⟩)
  have HX : Hid (X.alloc (.cells zN 26) = X1 ∧ X1.setRow X.heap.size (noteA kd b x s (.slice o1 m1 e1) (.slice o2 m2 e2)) = X2) := ⟨hX1, hX2⟩
  rw [← hX1] at st1
  rw [← hX2, ← hX1] at cq ldA ldB stA stB
  clear hX1 hX2 n1 n2 o1' o2' zX2 g0 g1 hTw kp hzX hz ht hcb C ld hq1 hq2 hBW HBW
  unfold noteA zN at *
  by_cases h0 : q < 0
  · go_wp2_with fail
    rw [HX.out.1, HX.out.2]
    refine bodyPost_ret (results_N2 rfl _ _ (W.heap.size + 1) _ rfl rfl HA.out.1) rfl ?_
    exact ⟨kd, b, x, s, _, _, _, _, false, rfl, ⟨_, _, _, rfl⟩, ⟨_, _, _, rfl⟩, rfl, HB.out _, fun h => by cases h⟩
  · have h0' : 0 ≤ q := by omega
    have HT2 : Hid _ := HT.out h0'
    clear h0'
    go_wp2_with fail
    rw [HX.out.1, HX.out.2]
    refine bodyPost_ret (results_N2 rfl _ _ (W.heap.size + 1) _ rfl rfl HA.out.2) rfl ?_
    exact ⟨kd, b, x, s, _, _, _, _, true, rfl, ⟨_, _, _, rfl⟩, ⟨_, _, _, rfl⟩, rfl, HB.out _, fun _ => HT2.out⟩
theorem intV_form (k : Int) (x : Nat) : ∃ (n : Int) (o : Bool), intV k x = .tuple #[.int .i64 n, .bool o] := by
  unfold intV
  split
  · exact ⟨_, _, rfl⟩
  · exact ⟨_, _, rfl⟩
set_option maxRecDepth 100000 in
set_option maxHeartbeats 3200000 in
theorem ints_any (k : Nat) (c : Array Value) (W : World) (h : Nt W.heap.size W k c) : Calls Try.prog 3 #[.agg c] W fun e w' => e = .returned (.bool true) ∧ Below W.heap.size W w' := by
  obtain ⟨kd, b, x, s, L, F, rfl, ⟨oL, nL, cL, rfl⟩, ⟨oF, nF, cF, rfl⟩⟩ := h.form
  obtain ⟨W0, hW0⟩ : ∃ W0, W.alloc (.cells (noteA kd b x s (.slice oL nL cL) (.slice oF nF cF)) 26) = W0 := ⟨_, rfl⟩
  have z0 : W0.heap.size = W.heap.size + 1 := by rw [← hW0]; simp
  have b0 : Below W.heap.size W W0 := by rw [← hW0]; exact (Below.refl _ W).alloc (Nat.le_refl _) _
  have r0 : W0.heap[W.heap.size]? = some (.cells (noteA kd b x s (.slice oL nL cL) (.slice oF nF cF)) 26 (0, 0)) := by rw [← hW0]; exact heap_alloc_new _ _
  have C : Hid _ := deep4_any W.heap.size k _ W0 (by omega) (h.keep b0.block)
  have ld := ld_row W0 W.heap.size _ rfl r0
  have HW : Hid (W.alloc (.cells (noteA kd b x s (.slice oL nL cL) (.slice oF nF cF)) 26) = W0) := hW0
  have HR : Hid (W0.heap.size = W.heap.size + 1 ∧ Below W.heap.size W W0 ∧ W0.heap[W.heap.size]? = some (.cells (noteA kd b x s (.slice oL nL cL) (.slice oF nF cF)) 26 (0, 0))) := ⟨z0, b0, r0⟩
  rw [← hW0] at ld
  clear hW0 z0 b0 r0 h
  unfold noteA at *
  go_enter Try.func3, Try.ntmps3
  go_wp2_with fail
  rw [HW.out]
  refine Calls.mono C.out ?_
  rintro e X ⟨kd', b', x', s', L0, F0, L', F', ok, hce, ⟨o1, m1, e1, rfl⟩, ⟨o2, m2, e2, rfl⟩, rfl, hb, hTw⟩
  obtain ⟨rfl, rfl, rfl, rfl, rfl, rfl⟩ : kd = kd' ∧ b = b' ∧ x = x' ∧ s = s' ∧ .slice oL nL cL = L0 ∧ .slice oF nF cF = F0 := by
    have := congrArg Array.toList hce
    simp only [noteA, List.cons.injEq, Value.int.injEq, Value.bool.injEq, Value.float.injEq, Value.string.injEq, true_and, and_true] at this
    obtain ⟨q1, q2, q3, q4, q5, q6⟩ := this
    exact ⟨q1, q2, q3, q4, q5, q6⟩
  clear hce C ld
  have hz := HR.out.1
  have hzX := hb.size
  obtain ⟨X1, hX1⟩ : ∃ X1, X.alloc (.cells zN 26) = X1 := ⟨_, rfl⟩
  have n1 : X1.heap[X.heap.size]? = some (.cells zN 26 (0, 0)) := by rw [← hX1]; exact heap_alloc_new _ _
  have o1' : ∀ j, j < X.heap.size → X1.heap[j]? = X.heap[j]? := fun j hj => by rw [← hX1]; exact heap_alloc_old _ _ (h := hj)
  have st1 := st_N X1 X.heap.size zN (noteA kd b x s (.slice o1 m1 e1) (.slice o2 m2 e2)) rfl rfl (note_one _ _ _ _ _ _ ⟨_, _, _, rfl⟩ ⟨_, _, _, rfl⟩) n1
  obtain ⟨X2, hX2⟩ : ∃ X2, X1.setRow X.heap.size (noteA kd b x s (.slice o1 m1 e1) (.slice o2 m2 e2)) = X2 := ⟨_, rfl⟩
  have n2 : X2.heap[X.heap.size]? = some (.cells (noteA kd b x s (.slice o1 m1 e1) (.slice o2 m2 e2)) 26 (0, 0)) := by rw [← hX2]; exact setRow_heap _ _ _ _ _ _ n1
  have o2' : ∀ j, j < X.heap.size → X2.heap[j]? = X.heap[j]? := fun j hj => by rw [← hX2]; exact (setRow_other _ _ _ _ (by omega)).trans (o1' j hj)
  have zX2 : X2.heap.size = X.heap.size + 1 := by rw [← hX2, ← hX1]; simp
  have bX : Below X.heap.size X X2 := by
    rw [← hX2, ← hX1] at *
    exact ⟨rfl, rfl, rfl, by omega, o2'⟩
  have bW2 : Below W0.heap.size W0 X2 := hb.trans (bX.mono hb.size)
  have hk : ∀ Y, Below X2.heap.size X2 Y → (ldN (.pointer (some ⟨X.heap.size, 0, none⟩))).run Try.prog Y = .ok (.agg (noteA kd b x s (.slice o1 m1 e1) (.slice o2 m2 e2))) Y ∧ (ldN (.pointer (some ⟨W.heap.size, 0, none⟩))).run Try.prog Y = .ok (.agg (noteA kd b x s (.slice oL nL cL) (.slice oF nF cF))) Y ∧ Below W.heap.size W Y ∧ (ok = true → Tw W.heap.size (fun g => W0.heap.size ≤ g ∧ g < X.heap.size) Y k (noteA kd b x s (.slice o1 m1 e1) (.slice o2 m2 e2)) (noteA kd b x s (.slice oL nL cL) (.slice oF nF cF))) := fun Y hY => by
    have bY : Below W0.heap.size W0 Y := bW2.trans (hY.mono bW2.size)
    refine ⟨ld_row Y _ _ rfl ((hY.block _ (by omega)).trans n2), ld_row Y _ _ rfl ((bY.block _ (by omega)).trans HR.out.2.2), HR.out.2.1.trans (bY.mono HR.out.2.1.size), fun hk => (hTw hk).keep (fun j hj => (hY.block j (by omega)).trans (o2' j (by omega))) (fun j hj => (hY.block j (by have := hj.2; omega)).trans (o2' j hj.2)) (fun _ h => h)⟩
  have HK : Hid _ := hk
  have HX : Hid (X.alloc (.cells zN 26) = X1 ∧ X1.setRow X.heap.size (noteA kd b x s (.slice o1 m1 e1) (.slice o2 m2 e2)) = X2) := ⟨hX1, hX2⟩
  have HZ : Hid (W0.heap.size = W.heap.size + 1 ∧ W0.heap.size ≤ X.heap.size ∧ X2.heap.size = X.heap.size + 1) := ⟨hz, hzX, zX2⟩
  have l1 := (hk X2 (Below.refl _ _)).1
  rw [← hX1] at st1
  rw [← hX2, ← hX1] at l1
  clear hX1 hX2 n1 n2 o1' o2' zX2 hTw hzX hz hb bX bW2 hk
  obtain ⟨n, o, hI⟩ := intV_form kd x
  have HC1 : Hid (∀ w, Calls Try.prog 5 #[.agg (noteA kd b x s (.slice o1 m1 e1) (.slice o2 m2 e2))] w fun e w' => e = .returned (.tuple #[.int .i64 n, .bool o]) ∧ Below w.heap.size w w') := fun w => by have := intC_any kd b x s (.slice o1 m1 e1) (.slice o2 m2 e2) w; rwa [hI] at this
  have HC2 : Hid (∀ w, Calls Try.prog 6 #[.agg (noteA kd b x s (.slice oL nL cL) (.slice oF nF cF))] w fun e w' => e = .returned (.tuple #[.int .i64 n, .bool o]) ∧ Below w.heap.size w w') := fun w => by have := intR_any kd b x s (.slice oL nL cL) (.slice oF nF cF) w; rwa [hI] at this
  clear hI
  unfold noteA zN at *
  go_wp2_with fail
  rw [HX.out.1, HX.out.2]
  refine Calls.mono (HC1.out _) ?_
  rintro e Y ⟨rfl, hY⟩
  have HY : Hid (Below X2.heap.size X2 Y) := hY
  have l2 := (HK.out Y hY).2.1
  unfold noteA at l2
  clear hY st1 l1
  go_wp2_with fail
  refine Calls.mono (HC2.out _) ?_
  rintro e Z ⟨rfl, hZ⟩
  have HZ2 : Hid (Below X2.heap.size X2 Z) := HY.out.trans (hZ.mono HY.out.size)
  obtain ⟨l3, l4, hb4, hT⟩ := HK.out Z HZ2.out
  have HB4 : Hid (Below W.heap.size W Z) := hb4
  clear hZ l2 HY hb4
  cases ok with
  | false =>
    clear l3 l4 hT
    go_wp2_with fail
    go_ret
    exact ⟨rfl, HB4.out⟩
  | true =>
    have C3 : Hid _ := still_any W.heap.size (fun g => W0.heap.size ≤ g ∧ g < X.heap.size) k _ _ 0 Z (by omega) (fun j hj => by have h1 := HZ.out; have h2 := HZ2.out.size; rcases hj with h | h <;> omega) (hT rfl)
    clear hT
    unfold noteA at *
    go_wp2_with fail
    refine Calls.mono C3.out ?_
    rintro e V ⟨rfl, hV⟩
    have HV : Hid (Below W.heap.size W V) := HB4.out.trans (hV.mono HB4.out.size)
    clear hV
    go_wp2_with fail
    go_ret
    exact ⟨rfl, HV.out⟩
end Go.Proofs.Ytnljnknnjahjkaa
