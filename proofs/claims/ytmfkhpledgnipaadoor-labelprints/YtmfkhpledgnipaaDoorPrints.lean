/- LabelPrints' walk. -/
import Derived.Test.YtmfkhpledgnipaaDoorStep7
namespace Go.Proofs.YtmfkhpledgnipaaDoor
open Go.RowKit
/-- What holds at each moment. -/
structure Kp (h k : List Nat) (s t : ByteArray) (w W : World) : Prop where
  a : W.heap[w.heap.size]? = some (.cells (lab h s) 25 (0, 0))
  b : W.heap[w.heap.size + 1]? = some (.cells (lab k t) 25 (0, 0))
  bel : Below w.heap.size w W
  sz : w.heap.size + 2 ≤ W.heap.size
theorem Kp.below {h k : List Nat} {s t : ByteArray} {w W W' : World} (K : Kp h k s t w W) (b : Below W.heap.size W W') : Kp h k s t w W' :=
  ⟨(b.block _ (by have := K.sz; omega)).trans K.a, (b.block _ (by have := K.sz; omega)).trans K.b, K.bel.trans (b.mono (by have := K.sz; omega)), by have := b.size; have := K.sz; omega⟩
theorem two_form (h : List Nat) (s : ByteArray) : ∃ X E, printV h s = .tuple #[.string X, .int .i64 ((E : Nat) : Int)] := by
  unfold printV two
  split <;> exact ⟨_, _, rfl⟩
theorem two_form' (h : List Nat) (s : ByteArray) : ∃ X E, baseV h s = .tuple #[.string X, .int .i64 ((E : Nat) : Int)] := by
  unfold baseV two
  split <;> exact ⟨_, _, rfl⟩
theorem put7 (X : ByteArray) (E C : Int) (A B : Array Value) (v0 v1 v2 v3 v4 v5 v6 v7 v8 v9 v10 v11 v12 v13 v14 v15 v16 v17 v18 v19 v20 v21 v22 v23 v24 v25 v26 v27 v28 v29 v30 v31 v32 v33 v34 v35 v36 v37 v38 v39 v40 v41 v42 v43 v44 v45 v46 v47 v48 v49 v50 v51 v52 v53 : Value) : putN reg7 (V7 X E C A B) ⟨#[v0, v1, v2, v3, v4, v5, v6, v7, v8, v9, v10, v11, v12, v13, v14, v15, v16, v17, v18, v19, v20, v21, v22, v23, v24, v25, v26, v27, v28, v29, v30, v31, v32, v33, v34, v35, v36, v37, v38, v39, v40, v41, v42, v43, v44, v45, v46, v47, v48, v49, v50, v51, v52, v53], []⟩ reg7.size = ⟨#[v0, v1, v2, v3, .bool true, v5, v6, v7, v8, v9, v10, v11, v12, v13, v14, v15, v16, v17, v18, v19, v20, v21, v22, v23, v24, v25, v26, v27, v28, v29, v30, v31, v32, v33, v34, v35, v36, .string X, .string X, .bool true, .bool true, .int .i64 E, .int .i64 E, .bool true, .bool true, .bool true, .agg A, .agg B, .int .i64 C, .agg A, .agg B, .int .i64 C, .bool true, .bool true], []⟩ := by kernel_rfl
attribute [local go_sem ↓] to25l
set_option maxRecDepth 100000 in
set_option maxHeartbeats 3200000 in
theorem prints_any (h k : List Nat) (hb : Byt h) (hl : h.length = 20) (kl : k.length = 20) (s t : ByteArray) (w : World) (ht : Tx w) :
    Calls Tryd.prog 5 #[.agg (lab h s), .agg (lab k t)] w fun e w' => e = .returned (.bool true) ∧ Below w.heap.size w w' := by
  obtain ⟨W2, hW2⟩ : ∃ W, W = (w.alloc (Obj.cells (lab h s) 25)).alloc (Obj.cells (lab k t) 25) := ⟨_, rfl⟩
  have K2 : Hid (Kp h k s t w W2) := by
    refine ⟨?_, ?_, ?_, ?_⟩
    · rw [hW2]; exact (heap_alloc_old _ _ (h := by simp)).trans (heap_alloc_new _ _)
    · rw [hW2]
      have := heap_alloc_new (w.alloc (Obj.cells (lab h s) 25)) (Obj.cells (lab k t) 25)
      rw [show (w.alloc (Obj.cells (lab h s) 25)).heap.size = w.heap.size + 1 by simp] at this
      exact this
    · rw [hW2]; exact ((Below.refl _ w).alloc (Nat.le_refl _) _).alloc (by simp) _
    · rw [hW2]; simp
  have ldA := fun (W : World) (K : Kp h k s t w W) => run_loadR25 W w.heap.size h s K.a hl
  have ldB := fun (W : World) (K : Kp h k s t w W) => run_loadR25 W (w.heap.size + 1) k t K.b kl
  have HT : Hid (∀ W, Kp h k s t w W → Tx W) := fun W K => ht.below K.bel ht.sz
  have HA : Hid (∀ W, Kp h k s t w W → (loadR 25 (.pointer (some ⟨w.heap.size, 0, none⟩))).run Tryd.prog W = .ok (.agg (lab h s)) W) := ldA
  have HB : Hid (∀ W, Kp h k s t w W → (loadR 25 (.pointer (some ⟨w.heap.size + 1, 0, none⟩))).run Tryd.prog W = .ok (.agg (lab k t)) W) := ldB
  clear ldA ldB ht
  obtain ⟨X, E, hX⟩ := two_form h s
  obtain ⟨Y, F, hY⟩ := two_form' h s
  have P1 : Hid (∀ W, Kp h k s t w W → Calls Tryd.prog 7 #[.agg (lab h s)] W fun e w' => e = .returned (.tuple #[.string X, .int .i64 (E : Int)]) ∧ Kp h k s t w w') := fun W K => by
    rw [← hX]; exact (printC_any h hb hl s W (HT.out W K)).mono fun e w' ⟨q, b⟩ => ⟨q, K.below b⟩
  have P2 : Hid (∀ W, Kp h k s t w W → Calls Tryd.prog 16 #[.agg (lab h s)] W fun e w' => e = .returned (.tuple #[.string X, .int .i64 (E : Int)]) ∧ Kp h k s t w w') := fun W K => by
    rw [← hX]; exact (printR_any h hb hl s W).mono fun e w' ⟨q, b⟩ => ⟨q, K.below b⟩
  have B1 : Hid (∀ W, Kp h k s t w W → Calls Tryd.prog 8 #[.agg (lab h s)] W fun e w' => e = .returned (.tuple #[.string Y, .int .i64 (F : Int)]) ∧ Kp h k s t w w') := fun W K => by
    rw [← hY]; exact (baseC_any h hb hl s W (HT.out W K)).mono fun e w' ⟨q, b⟩ => ⟨q, K.below b⟩
  have B2 : Hid (∀ W, Kp h k s t w W → Calls Tryd.prog 17 #[.agg (lab h s)] W fun e w' => e = .returned (.tuple #[.string Y, .int .i64 (F : Int)]) ∧ Kp h k s t w w') := fun W K => by
    rw [← hY]; exact (baseR_any h hb hl s W).mono fun e w' ⟨q, b⟩ => ⟨q, K.below b⟩
  have C1 : Hid (∀ W, Kp h k s t w W → Calls Tryd.prog 18 #[.agg (lab h s), .agg (lab k t)] W fun e w' => e = .returned (.int .i64 (cmpV h k s t)) ∧ Kp h k s t w w') := fun W K => (cmpC_any h k s t hl kl W).mono fun e w' ⟨q, b⟩ => ⟨q, K.below b⟩
  have C2 : Hid (∀ W, Kp h k s t w W → Calls Tryd.prog 19 #[.agg (lab h s), .agg (lab k t)] W fun e w' => e = .returned (.int .i64 (cmpV h k s t)) ∧ Kp h k s t w w') := fun W K => (cmpR_any h k s t hl kl W).mono fun e w' ⟨q, b⟩ => ⟨q, K.below b⟩
  clear hX hY
  have l2 := HA.out _ K2.out
  rw [hW2] at l2
  have HW : Hid (W2 = (w.alloc (Obj.cells (lab h s) 25)).alloc (Obj.cells (lab k t) 25)) := hW2
  rw [hW2] at K2
  clear hW2
  go_enter Tryd.func5, Tryd.ntmps5
  go_wp2_with fail
  refine (P1.out _ K2.out).mono ?_
  rintro e W3 ⟨rfl, k3⟩
  have K3 : Hid (Kp h k s t w W3) := k3
  have l3 := HA.out _ k3
  clear k3 l2 K2
  go_wp2_with fail
  refine (P2.out _ K3.out).mono ?_
  rintro e W4 ⟨rfl, k4⟩
  have K4 : Hid (Kp h k s t w W4) := k4
  have l4 := HA.out _ k4
  clear k4 l3 K3
  go_wp2_with fail
  refine (B1.out _ K4.out).mono ?_
  rintro e W5 ⟨rfl, k5⟩
  have K5 : Hid (Kp h k s t w W5) := k5
  have l5 := HA.out _ k5
  clear k5 l4 K4
  go_wp2_with fail
  refine (B2.out _ K5.out).mono ?_
  rintro e W6 ⟨rfl, k6⟩
  have K6 : Hid (Kp h k s t w W6) := k6
  clear k6 l5 K5
  go_wp2_with fail
  rename_i Q1 K1 hK
  refine wp_region_vals (ops := reg7) (V := V7 Y (F : Int) (cmpV h k s t) (lab h s) (lab k t)) (S := fun W => Kp h k s t w W) (by kernel_rfl) (fun i o ho => (okR_at okR7 ho).1) (fun i j o oj d ho hj q1 q2 => (okR_at okR7 ho).2.2 j oj d hj q1 q2) (fun i o d ho q => (okR_at okR7 ho).2.1 d q)
    (step7 _ w.heap.size (w.heap.size + 1) Y (F : Int) (cmpV h k s t) (lab h s) (lab k t) _ _ rfl rfl rfl rfl rfl rfl HA.out HB.out C1.out C2.out) (K6.out.below ((Below.refl _ W6).drew)) (fun w' hS => ?_)
  show K1 _ w'
  rw [put7]
  refine hK _ _ ?_
  go_wp2
  go_ret
  exact ⟨rfl, hS.bel⟩
end Go.Proofs.YtmfkhpledgnipaaDoor
