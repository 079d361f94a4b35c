/- The laws' marked. -/
import Derived.Test.YtceclpabdfncoaaDoorRwB
import Derived.Test.YtceclpabdfncoaaDoorShTc
import Derived.Test.YtceclpabdfncoaaDoorBig
import Derived.Test.YtceclpabdfncoaaDoorPrn
namespace Go.Proofs.YtceclpabdfncoaaDoor.Re
open Go.RowKit
/-- A text of some length at most, and new memory. -/
def TxM (k : Nat) (w : World) (e : Ending) (w' : World) : Prop := ∃ s : S, e = .returned (.string s) ∧ s.size ≤ k ∧ Below w.heap.size w w'
theorem byte_z (z : Int) : ∃ k : Nat, IntKind.u8.wrap z = (k : Int) ∧ k < 256 := ⟨(z % 256).toNat, by rw [IntKind.wrap_u8]; omega, by omega⟩
set_option maxRecDepth 100000 in
theorem sizeSum : (Tryd.prog.info? 57).map (·.size) = some 32 := by kernel_rfl
theorem toSuL (v : Value) : Instr.loadAt 57 v = loadR 57 v := rfl
theorem run_ldSum (w : World) (g : Nat) (l : List Nat) (hg : w.heap[g]? = some (.cells (bs l) 57 (0, 0))) (hl : l.length = 32) : (loadR 57 (.pointer (some ⟨g, 0, none⟩))).run Tryd.prog w = .ok (.agg (bs l)) w := by
  unfold loadR
  simp only [Instr.loadAt, Instr.sureAddr, Sem.run_bind, Sem.run_pure, Result.andThen_ok, run_loadVar_row w g 57 57 (bs l) (0, 0) _ hg Tryd.underlying57 rfl (by rw [sizeSum, bs_size, hl])]
def stSum (p v : Value) : Sem Unit := Instr.storeAt 57 p v
theorem toSsm (p v : Value) : Instr.storeAt 57 p v = stSum p v := rfl
theorem run_stSum (w : World) (g : Nat) (l m : List Nat) (hg : w.heap[g]? = some (.cells (bs l) 57 (0, 0))) (hl : l.length = 32) (hm : m.length = 32) : (stSum (.pointer (some ⟨g, 0, none⟩)) (.agg (bs m))).run Tryd.prog w = .ok () (w.setRow g (bs m)) := by
  unfold stSum
  simp only [Instr.storeAt, Instr.sureAddr, Sem.run_bind, Sem.run_pure, Result.andThen_ok, run_storeVar_row w g 57 57 (bs l) (bs m) hg (by rw [sizeSum, bs_size, hm]) (by rw [bs_size, bs_size, hl, hm]) (bs_one m)]
set_option maxRecDepth 100000 in
theorem st_new (w W : World) (Z : List Nat) (hZ : Z.length = 32) (hb : Below w.heap.size w W) : ∃ X, (stSum (.pointer (some ⟨W.heap.size, 0, none⟩)) (.agg (bs Z))).run Tryd.prog (W.alloc (.cells #[.int .u8 0, .int .u8 0, .int .u8 0, .int .u8 0, .int .u8 0, .int .u8 0, .int .u8 0, .int .u8 0, .int .u8 0, .int .u8 0, .int .u8 0, .int .u8 0, .int .u8 0, .int .u8 0, .int .u8 0, .int .u8 0, .int .u8 0, .int .u8 0, .int .u8 0, .int .u8 0, .int .u8 0, .int .u8 0, .int .u8 0, .int .u8 0, .int .u8 0, .int .u8 0, .int .u8 0, .int .u8 0, .int .u8 0, .int .u8 0, .int .u8 0, .int .u8 0] 57)) = .ok () X ∧ X.heap[W.heap.size]? = some (.cells (bs Z) 57 (0, 0)) ∧ Below w.heap.size w X ∧ Below W.heap.size W X ∧ X.heap.size = W.heap.size + 1 := by
  have hz : (#[.int .u8 0, .int .u8 0, .int .u8 0, .int .u8 0, .int .u8 0, .int .u8 0, .int .u8 0, .int .u8 0, .int .u8 0, .int .u8 0, .int .u8 0, .int .u8 0, .int .u8 0, .int .u8 0, .int .u8 0, .int .u8 0, .int .u8 0, .int .u8 0, .int .u8 0, .int .u8 0, .int .u8 0, .int .u8 0, .int .u8 0, .int .u8 0, .int .u8 0, .int .u8 0, .int .u8 0, .int .u8 0, .int .u8 0, .int .u8 0, .int .u8 0, .int .u8 0] : Array Value) = bs (List.replicate 32 0) := by kernel_rfl
  have hg : (W.alloc (.cells #[.int .u8 0, .int .u8 0, .int .u8 0, .int .u8 0, .int .u8 0, .int .u8 0, .int .u8 0, .int .u8 0, .int .u8 0, .int .u8 0, .int .u8 0, .int .u8 0, .int .u8 0, .int .u8 0, .int .u8 0, .int .u8 0, .int .u8 0, .int .u8 0, .int .u8 0, .int .u8 0, .int .u8 0, .int .u8 0, .int .u8 0, .int .u8 0, .int .u8 0, .int .u8 0, .int .u8 0, .int .u8 0, .int .u8 0, .int .u8 0, .int .u8 0, .int .u8 0] 57)).heap[W.heap.size]? = some (.cells (bs (List.replicate 32 0)) 57 (0, 0)) := by rw [hz]; exact heap_alloc_new _ _
  exact ⟨_, run_stSum _ _ _ Z hg (by simp) hZ, setRow_heap _ _ _ _ _ _ hg, below_setRow (hb.alloc hb.size _) hb.size _, below_setRow ((Below.refl _ W).alloc (Nat.le_refl _) _) (Nat.le_refl _) _, by simp [World.setRow]⟩
set_option maxRecDepth 100000 in
theorem built20 (a0 a1 a2 a3 a4 a5 a6 a7 a8 a9 a10 a11 a12 a13 a14 a15 a16 a17 a18 a19 : Nat) (s : ByteArray) : Tryd.prog.built 64 [(0, .agg (bs [a0, a1, a2, a3, a4, a5, a6, a7, a8, a9, a10, a11, a12, a13, a14, a15, a16, a17, a18, a19])), (1, .string s)] = some (lab [a0, a1, a2, a3, a4, a5, a6, a7, a8, a9, a10, a11, a12, a13, a14, a15, a16, a17, a18, a19] s) := by kernel_rfl
set_option maxRecDepth 100000 in
theorem built_lab (h : List Nat) (hl : h.length = 20) (s : ByteArray) : Tryd.prog.built 64 [(0, .agg (bs h)), (1, .string s)] = some (lab h s) := by
  match h, hl with
  | [a0, a1, a2, a3, a4, a5, a6, a7, a8, a9, a10, a11, a12, a13, a14, a15, a16, a17, a18, a19], _ => exact built20 a0 a1 a2 a3 a4 a5 a6 a7 a8 a9 a10 a11 a12 a13 a14 a15 a16 a17 a18 a19 s
/-- A label put together, kept shut. -/
def bdLab (ps : Array (Nat × Value)) : Sem Value := Instr.build 64 ps
theorem toBdLab (ps : Array (Nat × Value)) : Instr.build 64 ps = bdLab ps := rfl
theorem bd_Lab (w : World) (h : List Nat) (hl : h.length = 20) (s : ByteArray) : (bdLab #[(0, .agg (bs h)), (1, .string s)]).run Tryd.prog w = .ok (.agg (lab h s)) w := run_build w 64 _ _ (built_lab h hl s)
section
attribute [local go_sem ↓] toSuL toSsm toBdLab
set_option maxRecDepth 100000 in
set_option maxHeartbeats 3200000 in
theorem marked_any (z : Int) (h1 : -9223372036854775808 ≤ z) (h2 : z ≤ 9223372036854775807) (t : S) (ht : t.size ≤ 1000) (w : World) (hx : Tx w) (hb : Sha.Tb w) : Calls Tryd.prog 8 #[.int .i64 z, .string t] w (TxM 300 w) := by
  obtain ⟨k1, e1, l1⟩ := byte_z z
  obtain ⟨k2, e2, l2⟩ : ∃ k : Nat, z / 256 % 256 = (k : Int) ∧ k < 256 := ⟨(z / 256 % 256).toNat, by omega, by omega⟩
  obtain ⟨Z, hZ⟩ : ∃ Z, Z = Sha.sha [k1, k2] := ⟨_, rfl⟩
  have ZL : Z.length = 32 := by rw [hZ]; exact Sha.sha_len _
  have ZB : Byt Z := by rw [hZ]; exact Sha.sha_byt _
  obtain ⟨W1, hW1⟩ : ∃ W, w.alloc (.cells #[.int .u8 (k1 : Int), .int .u8 (k2 : Int)] 5) = W := ⟨_, rfl⟩
  have b1 : Below w.heap.size w W1 := by rw [← hW1]; exact (Below.refl _ w).alloc (Nat.le_refl _) _
  have r1 : W1.heap[w.heap.size]? = some (.cells (bs [k1, k2]) 5 (0, 0)) := by rw [← hW1]; exact heap_alloc_new w _
  have C : Hid (Calls Tryd.prog 16 #[.slice (some ⟨w.heap.size, 0, none⟩) 2 2] W1 fun e w' => e = .returned (.agg (bs Z)) ∧ Below W1.heap.size W1 w') := by
    rw [hZ]
    exact Sha.of_tb [k1, k2] _ (by simp) (by intro x hx; simp at hx; omega) W1 (hb.below b1 hb.sz) (byl_row r1 (by simp [maxLen]))
  have HB : Hid (Below w.heap.size w W1 ∧ Tx w ∧ -9223372036854775808 ≤ z ∧ z ≤ 9223372036854775807 ∧ t.size ≤ 1000 ∧ Z.length = 32 ∧ Byt Z) := ⟨b1, hx, h1, h2, ht, ZL, ZB⟩
  clear b1 r1 hZ hx hb h1 h2 ht ZL ZB
  go_enter Tryd.func8, Tryd.ntmps8
  go_wp2_with fail
  refine C.out.mono ?_
  rintro e W2 ⟨rfl, b2⟩
  have HB2 : Hid (Below w.heap.size w W2) := HB.out.1.trans (b2.mono HB.out.1.size)
  obtain ⟨W3, st, r3, b3, b23, z3⟩ := st_new w W2 Z HB.out.2.2.2.2.2.1 HB2.out
  have ld := run_ldSum W3 W2.heap.size Z r3 HB.out.2.2.2.2.2.1
  obtain ⟨F, hF⟩ : ∃ F, F = Big.fold Z := ⟨_, rfl⟩
  have FL : F.length = 20 := by rw [hF]; exact Big.foldk_len _ _
  have FB : Byt F := by rw [hF]; exact Big.foldk_byt _ HB.out.2.2.2.2.2.2 _
  have CF : Hid (Calls Tryd.prog 19 #[.agg (bs Z)] W3 fun e w' => e = .returned (.agg (bs F)) ∧ Below W3.heap.size W3 w') := by rw [hF]; exact Big.foldC_any Z HB.out.2.2.2.2.2.1 HB.out.2.2.2.2.2.2 W3
  have HB3 : Hid (Below w.heap.size w W3 ∧ F.length = 20 ∧ Byt F) := ⟨b3, FL, FB⟩
  clear b2 b3 b23 r3 hF FL FB z3
  go_wp2_with fail
  refine CF.out.mono ?_
  rintro e W4 ⟨rfl, b4⟩
  have HB4 : Hid (Below w.heap.size w W4) := HB3.out.1.trans (b4.mono HB3.out.1.size)
  clear b4
  go_wp2_with fail
  refine (word_any z HB.out.2.2.1 HB.out.2.2.2.1 W4).mono ?_
  rintro e W5 ⟨s, rfl, hs, m, hm⟩
  have HB5 : Hid (Below w.heap.size w W5) := by show Below _ _ _; rw [hm]; exact HB4.out.trans ((bel_dn W4 m).mono HB4.out.size)
  have q1 : ¬ (9223372036854775807 < s.size + t.size) := by have := HB.out.2.2.2.2.1; omega
  have bd := bd_Lab W5 F HB3.out.2.1 (s ++ t)
  clear hm hs
  go_wp2_with fail
  refine (printC_any F HB3.out.2.2 HB3.out.2.1 (s ++ t) W5 (HB.out.2.1.below HB5.out HB.out.2.1.sz)).mono ?_
  rintro e W6 ⟨rfl, b6⟩
  have HB6 : Hid (Below w.heap.size w W6) := HB5.out.trans (b6.mono HB5.out.size)
  clear b6
  by_cases h0 : okN (s ++ t) = 0
  · have HZ : Hid ((store ++ baseS F (s ++ t)).size ≤ 300) := by
      show _ ≤ _
      have q := okN_size _ h0
      rw [app_size, baseS_size F _ HB3.out.2.1]
      have : store.size = 13 := by decide
      omega
    rw [show printV F (s ++ t) = two (store ++ baseS F (s ++ t)) 0 by unfold printV; rw [if_pos h0]]
    unfold two
    clear h0
    go_wp2_with fail
    go_ret
    exact ⟨_, rfl, HZ.out, HB6.out⟩
  · rw [show printV F (s ++ t) = two ⟨#[]⟩ (okN (s ++ t)) by unfold printV; rw [if_neg h0]]
    unfold two
    clear h0
    go_wp2_with fail
    go_ret
    exact ⟨_, rfl, by decide, HB6.out⟩
end
end Go.Proofs.YtceclpabdfncoaaDoor.Re
