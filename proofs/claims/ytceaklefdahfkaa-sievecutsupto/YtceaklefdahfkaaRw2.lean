/- The sieve: slices.Grow, Concat, Clone. -/
import Derived.Test.YtceaklefdahfkaaFn4
import Derived.Test.YtceaklefdahfkaaSv9
import Derived.Lib.AppendZerosOnto
import Derived.BigRegion
namespace Go.Proofs.Ytceaklefdahfkaa
open Go.RowKit
def apP (ty : Nat) (vs : Array Value) : Sem Value := Builtin.append_ #[27, 27] ty vs
theorem toApP (ty : Nat) (vs : Array Value) : Builtin.append_ #[27, 27] ty vs = apP ty vs := rfl
def apZ (ty : Nat) (vs : Array Value) : Sem Value := Builtin.append_ #[27, 3] ty vs
theorem toApZ (ty : Nat) (vs : Array Value) : Builtin.append_ #[27, 3] ty vs = apZ ty vs := rfl
theorem grown_below {w w' : World} {base n s e : Nat} {v : Value} {xs : List Value} (ho : w.ownsRow base e s v n xs) (hB : base ≤ w.heap.size) (hg : w.grownBy w' v.ownBlock) : Below base w w' :=
  ⟨hg.os, hg.tape, hg.output, hg.size, fun k hk => hg.block k (by omega) (fun e => by have := (ho.lt k e.symm).1; omega)⟩
/-- Bytes appended to bytes of one's own. -/
theorem run_apP (w : World) (base n ty : Nat) (v : Value) (l e : List Nat) (sv : Value) (ho : w.ownsRow base 5 1 v n (ik .u8 l).toList) (hs : Si .u8 sv e w) (hb : n + e.length ≤ 1099511627776) (hB : base ≤ w.heap.size) :
    ∃ v' w', (apP ty #[v, sv]).run Try.prog w = .ok v' w' ∧ w'.ownsRow base 5 1 v' (n + e.length) (ik .u8 (l ++ e)).toList ∧ Below base w w' := by
  obtain ⟨i0, hi0, hz0, hz1, hz2⟩ := info_parts info5
  rcases hs with ⟨rfl, rfl⟩ | ⟨b, off, c, rfl, h2, h3, h4, h5⟩
  · refine ⟨v, w, run_append_owned_none (P := Try.prog) w base 27 ty 5 i0 1 Try.underlying27 hi0 _ n _ ho, ?_, Below.refl _ _⟩
    rw [List.append_nil]; exact ho
  · obtain ⟨v', w', hr, ho2, hg, _⟩ := run_append_own (P := Try.prog) w base 27 ty 5 i0 _ 1 1 Try.underlying27 hi0 hz0 hz1 hz2 rfl (by omega) v n _ ho ⟨b, off, none⟩ e.length c (ik .u8 e).toList (by simp [ik]) (fun j u hu => by
        have hj : j < e.length := by have := (List.getElem?_eq_some_iff.1 hu).1; simpa [ik] using this
        rw [Array.getElem?_toList, ik_get _ _ j hj] at hu
        rw [← Option.some.inj hu, Go.WideShapes.add_plain]
        exact h5 j hj) (fun u hu => by
        have := ik_one .u8 e
        rw [Array.all_eq_true] at this
        obtain ⟨j, hj, rfl⟩ := List.getElem_of_mem hu
        simp only [Array.length_toList] at hj
        exact this j hj) (by unfold maxLen; omega) (by omega) hB
    have e : (ik .u8 l).toList ++ (ik .u8 e).toList = (ik .u8 (l ++ e)).toList := by simp [ik]
    rw [e] at ho2
    exact ⟨v', w', hr, ho2, grown_below ho hB hg⟩
set_option maxRecDepth 100000 in
theorem run_zeros (w : World) (ty n : Nat) (h0 : 0 < n) (hn : n ≤ 1099511627776) : ∃ c w', (apZ ty #[.slice none 0 0, .int .i64 (n : Int)]).run Try.prog w = .ok (.slice (some ⟨w.heap.size, 0, none⟩) n c) w' ∧ w'.ownsRow w.heap.size 5 1 (.slice (some ⟨w.heap.size, 0, none⟩) 0 c) 0 (ik .u8 []).toList ∧ Below w.heap.size w w' := by
  obtain ⟨i0, hi0, hz0, hz1, hz2⟩ := info_parts info5
  have hc : Builtin.nextslicecap n 0 = n := by unfold Builtin.nextslicecap; rw [if_pos (by omega)]
  have hr := Lib.run_append_grow_zeros (P := Try.prog) w 27 3 ty 5 i0 (.int .u8 0) .i64 .i64 Try.underlying27 (by kernel_rfl) hi0 hz0 none 0 0 [] (by simp [Builtin.firstCells]) n h0 (by omega) (by omega) (by omega) (by rw [hz2]; omega) (by rw [Nat.zero_add, hc, hz2]; omega)
  simp only [Nat.zero_add] at hr
  have hge := grownCap_ge w n 0 5
  have hle := grownCap_le_maxLen w n 0 5 (by unfold maxLen; omega)
  generalize grownCap w n 0 5 = c at hr hge hle
  refine ⟨c, _, hr, ⟨rfl, .inr ⟨w.heap.size, c, _, rfl, Nat.le_refl _, heap_alloc_new w.drew _, by omega, hle, ?_, by simp [ik]⟩⟩, ?_⟩
  · simp [Builtin.zeroCells, Value.cells]
    omega
  · exact ((Below.refl _ w).drew).alloc (Nat.le_refl _) _
attribute [local go_sem ↓] toApP toApZ
set_option maxRecDepth 100000 in
theorem grow_any (n : Nat) (hn : n ≤ 1099511627776) (w : World) : Calls Try.prog 80 #[.slice none 0 0, .int .i64 (n : Int)] w fun e w' => ∃ v, e = .returned v ∧ w'.ownsRow w.heap.size 5 1 v 0 (ik .u8 []).toList ∧ Below w.heap.size w w' := by
  by_cases h0 : 0 < n
  · obtain ⟨c, W, r, ho, hb⟩ := run_zeros w 27 n h0 hn
    have H : Hid _ := And.intro ho hb
    clear ho hb
    have h1 : ¬ ((n : Int) < 0) := by omega
    have h2 : (0 : Int) < (n : Int) := by omega
    go_enter Try.func80, Try.ntmps80
    go_wp2
    go_ret
    exact ⟨_, rfl, H.out⟩
  · have : n = 0 := by omega
    subst this
    go_enter Try.func80, Try.ntmps80
    go_wp2
    go_ret
    exact ⟨_, rfl, World.ownsRow_nil _ _ _ _, Below.refl _ _⟩
def apL (ty : Nat) (vs : Array Value) : Sem Value := Builtin.append_ #[26, 26] ty vs
theorem toApL (ty : Nat) (vs : Array Value) : Builtin.append_ #[26, 26] ty vs = apL ty vs := rfl
/-- Texts appended to texts of one's own. -/
theorem run_apL (w : World) (base n ty : Nat) (v : Value) (l e : List ByteArray) (sv : Value) (ho : w.ownsRow base 9 1 v n (sk l).toList) (hs : St sv e w) (hb : n + e.length ≤ 1073741824) (hB : base ≤ w.heap.size) :
    ∃ v' w', (apL ty #[v, sv]).run Try.prog w = .ok v' w' ∧ w'.ownsRow base 9 1 v' (n + e.length) (sk (l ++ e)).toList ∧ Below base w w' := by
  obtain ⟨i0, hi0, hz0, hz1, hz2⟩ := info_parts info9
  rcases hs with ⟨rfl, rfl⟩ | ⟨b, off, c, rfl, h2, h3, h4, h5⟩
  · refine ⟨v, w, run_append_owned_none (P := Try.prog) w base 26 ty 9 i0 1 Try.underlying26 hi0 _ n _ ho, ?_, Below.refl _ _⟩
    rw [List.append_nil]; exact ho
  · obtain ⟨v', w', hr, ho2, hg, _⟩ := run_append_own (P := Try.prog) w base 26 ty 9 i0 _ 1 16 Try.underlying26 hi0 hz0 hz1 hz2 rfl (by omega) v n _ ho ⟨b, off, none⟩ e.length c (sk e).toList (by simp [sk]) (fun j u hu => by
        have hj : j < e.length := by have := (List.getElem?_eq_some_iff.1 hu).1; simpa [sk] using this
        rw [Array.getElem?_toList, sk_get _ j hj] at hu
        rw [← Option.some.inj hu, Go.WideShapes.add_plain]
        exact h5 j _ (txt_get hj)) (fun u hu => by
        simp [sk] at hu
        obtain ⟨s, _, rfl⟩ := hu
        rfl) (by unfold maxLen; omega) (by omega) hB
    have e : (sk l).toList ++ (sk e).toList = (sk (l ++ e)).toList := by simp [sk]
    rw [e] at ho2
    exact ⟨v', w', hr, ho2, grown_below ho hB hg⟩
theorem own_new {w : World} {base e s n : Nat} {v : Value} {xs : List Value} (h : w.ownsRow base e s v n xs) : ∀ k, v.ownBlock = some k → base ≤ k := fun k hk => (h.lt k hk).1
attribute [local go_sem ↓] toApL
set_option maxRecDepth 100000 in
theorem clone_any (l : List ByteArray) (hl : l.length ≤ 1048576) (v : Value) (w : World) (hv : St v l w) : Calls Try.prog 48 #[v] w fun e w' => ∃ u, e = .returned u ∧ St u l w' ∧ Below w.heap.size w w' ∧ (∀ k, u.ownBlock = some k → w.heap.size ≤ k) := by
  rcases hv with ⟨rfl, rfl⟩ | ⟨b, off, c, rfl, h2, h3, h4, h5⟩
  · have eq := Lib.run_eql_slice_nil (P := Try.prog) w 26 9 none 0 0 0 0 Try.underlying26
    go_enter Try.func48, Try.ntmps48
    go_wp2
    go_ret
    exact ⟨_, rfl, .inl ⟨rfl, rfl⟩, Below.refl _ _, fun k hk => by cases hk⟩
  · obtain ⟨Wa, hWa⟩ : ∃ Wa, w.alloc (.cells #[] 9) = Wa := ⟨_, rfl⟩
    have hba : Below w.heap.size w Wa := by rw [← hWa]; exact (Below.refl _ w).alloc (Nat.le_refl _) _
    have hra : Wa.heap[w.heap.size]? = some (.cells #[] 9 (0, 0)) := by rw [← hWa]; exact heap_alloc_new w _
    have hs : St (.slice (some ⟨b, off, none⟩) l.length c) l Wa := St.below (.inr ⟨b, off, c, rfl, h2, h3, h4, h5⟩) hba
    have ho : Wa.ownsRow w.heap.size 9 1 (.slice (some ⟨w.heap.size, 0, none⟩) 0 0) 0 (sk []).toList := ⟨rfl, .inr ⟨w.heap.size, 0, #[], rfl, Nat.le_refl _, hra, Nat.le_refl _, by simp, rfl, rfl⟩⟩
    obtain ⟨v', w', r, ho2, hb2⟩ := run_apL Wa w.heap.size 0 26 _ [] l _ ho hs (by omega) hba.size
    have H : Hid (St v' l w' ∧ Below w.heap.size w w' ∧ (∀ k, v'.ownBlock = some k → w.heap.size ≤ k)) := ⟨own_st ho2 (by simp), hba.trans hb2, own_new ho2⟩
    clear h5 hba hra hs ho ho2 hb2
    have eq := Lib.run_eql_slice_nil (P := Try.prog) w 26 9 (some ⟨b, off, none⟩) l.length c 0 0 Try.underlying26
    go_enter Try.func48, Try.ntmps48
    go_wp2
    go_ret
    exact ⟨_, rfl, H.out⟩
/-- What Concat has laid, round by round. -/
def cpre (l1 l2 : List Nat) : Nat → List Nat
  | 0 => []
  | 1 => l1
  | _ => l1 ++ l2
attribute [local go_sem ↓] toApP
set_option maxRecDepth 100000 in
set_option maxHeartbeats 1600000 in
theorem concat_any (l1 l2 : List Nat) (h1 : l1.length ≤ 1073741824) (h2 : l2.length ≤ 1073741824) (v1 v2 : Value) (g : Nat) (w : World) (hg : w.heap[g]? = some (.cells #[v1, v2] 27 (0, 0))) (hv1 : Si .u8 v1 l1 w) (hv2 : Si .u8 v2 l2 w) :
    Calls Try.prog 65 #[.slice (some ⟨g, 0, none⟩) 2 2] w fun e w' => ∃ v, e = .returned v ∧ w'.ownsRow w.heap.size 5 1 v (l1 ++ l2).length (ik .u8 (l1 ++ l2)).toList ∧ Below w.heap.size w w' := by
  have gz : g < w.heap.size := (Array.getElem?_eq_some_iff.1 hg).1
  have HK : Hid (∀ k, k < 2 → ∃ o c e, w.cell? ⟨g, k, none⟩ = some (.slice o e.length c) ∧ Si .u8 (.slice o e.length c) e w ∧ e.length ≤ 1073741824 ∧ cpre l1 l2 (k + 1) = cpre l1 l2 k ++ e) := fun k hk => by
    obtain ⟨o1, c1, e1, -⟩ := hv1.form
    obtain ⟨o2, c2, e2, -⟩ := hv2.form
    rcases (show k = 0 ∨ k = 1 by omega) with rfl | rfl
    · exact ⟨o1, c1, l1, by rw [← e1]; exact (cell_of_row w g 0 _ _ _ hg).trans rfl, by rw [← e1]; exact hv1, h1, by simp [cpre]⟩
    · exact ⟨o2, c2, l2, by rw [← e2]; exact (cell_of_row w g 1 _ _ _ hg).trans rfl, by rw [← e2]; exact hv2, h2, by simp [cpre]⟩
  have HL : Hid (∀ k, k ≤ 2 → (cpre l1 l2 k).length ≤ 2147483648) := fun k hk => by
    rcases (show k = 0 ∨ k = 1 ∨ k = 2 by omega) with rfl | rfl | rfl <;> simp [cpre] <;> omega
  have CG : Hid _ := grow_any (cpre l1 l2 2).length (by have := HL.out 2 (by omega); omega) w
  have HE : Hid (cpre l1 l2 2 = l1 ++ l2) := rfl
  clear hg hv1 hv2 h1 h2
  obtain ⟨n, hn⟩ : ∃ n, n = (cpre l1 l2 2).length := ⟨_, rfl⟩
  rw [← hn] at CG
  have HN : Hid (n = (cpre l1 l2 2).length) := hn
  rw [show (l1 ++ l2).length = n from hn.symm]
  clear hn
  go_enter Try.func65, Try.ntmps65
  go_wp2_with fail
  go_loopw [3, 11] (fun sv iv wr => ∃ k q : Nat, iv = .int .i64 (k : Int) ∧ k ≤ 2 ∧ sv = .int .i64 (q : Int) ∧ Hid (q = (cpre l1 l2 k).length) ∧ wr = w) (fun _ iv _ => 2 - (intOf iv).toNat)
  case atStart => exact ⟨0, 0, rfl, by omega, rfl, rfl, rfl⟩
  case round =>
    obtain ⟨k, q, rfl, hk, rfl, HQ, hw⟩ := hrel
    subst hw
    by_cases hlt : k < 2
    · have hk0 : (0 : Int) ≤ (k : Int) := by omega
      have hk1 : (k : Int) < 2 := by omega
      obtain ⟨o, c, e, ce, -, he, hc⟩ := HK.out k hlt
      obtain ⟨q2, hq2⟩ : ∃ q2, q2 = q + e.length := ⟨_, rfl⟩
      have HQ2 : Hid (q2 = (cpre l1 l2 (k + 1)).length) := by show _ = _; rw [hc, List.length_append, hq2, HQ.out]
      have hl := HL.out (k + 1) (by omega)
      rw [← HQ2.out] at hl
      have f1 : (q : Int) + (e.length : Int) = (q2 : Int) := by omega
      have f2 : (q2 : Int) < 9223372036854775808 := by omega
      have f3 : ¬ ((q2 : Int) < 0) := by omega
      generalize e.length = p at ce f1
      clear hc HQ hl hq2 he CG HN HE HL HK
      go_wp2
      exact ⟨⟨k + 1, q2, by rfl, by omega, rfl, HQ2, trivial⟩, by simp only [intOf]; omega⟩
    · have hke : k = 2 := by omega
      have hk1 : ¬ ((k : Int) < 2) := by omega
      have hqn : q = n := by rw [HQ.out, HN.out, hke]
      subst hqn
      go_wp2_with fail
      refine Calls.mono CG.out ?_
      rintro e W ⟨v, rfl, ho, hb⟩
      have HO : Hid (W.ownsRow wr.heap.size 5 1 v (cpre l1 l2 0).length (ik .u8 (cpre l1 l2 0)).toList ∧ Below wr.heap.size wr W) := ⟨ho, hb⟩
      clear ho hb CG hke hk1 HQ hlt hk
      go_wp2_with fail
      obtain ⟨w, rfl⟩ : ∃ w, w = wr := ⟨_, rfl⟩
      go_loopw [6, 27] (fun v iv wr => ∃ k : Nat, iv = .int .i64 (k : Int) ∧ k ≤ 2 ∧ Hid (wr.ownsRow w.heap.size 5 1 v (cpre l1 l2 k).length (ik .u8 (cpre l1 l2 k)).toList ∧ Below w.heap.size w wr)) (fun _ iv _ => 2 - (intOf iv).toNat)
      case atStart => exact ⟨0, rfl, by omega, HO⟩
      case round =>
        clear HO
        obtain ⟨k, rfl, hk, HO⟩ := hrel
        obtain ⟨ho, hb⟩ := HO.out
        obtain ⟨ou, cu, hou⟩ := own_size ho
        subst hou
        by_cases hlt : k < 2
        · have hk0 : (0 : Int) ≤ (k : Int) := by omega
          have hk1 : (k : Int) < 2 := by omega
          obtain ⟨o, c, e, ce, hs, he, hc⟩ := HK.out k hlt
          have q1 : wr.cell? ⟨g, k, none⟩ = some (.slice o e.length c) := (World.cell?_of_block (w := w) (hb.block g gz)).trans ce
          obtain ⟨v', w', r, ho2, hb2⟩ := run_apP wr w.heap.size _ 27 _ _ e _ ho (hs.below hb) (by have := HL.out k (by omega); omega) hb.size
          have HO2 : Hid (w'.ownsRow w.heap.size 5 1 v' (cpre l1 l2 (k + 1)).length (ik .u8 (cpre l1 l2 (k + 1))).toList ∧ Below w.heap.size w w') := ⟨by rw [hc, List.length_append]; exact ho2, hb.trans hb2⟩
          generalize (cpre l1 l2 k).length = x at r
          generalize e.length = p at r q1
          clear ho hb ho2 hb2 hs he hc ce HO HL HK HN HE
          go_wp2
          exact ⟨⟨k + 1, by rfl, by omega, HO2⟩, by simp only [intOf]; omega⟩
        · have hke : k = 2 := by omega
          have hk1 : ¬ ((k : Int) < 2) := by omega
          have HE2 : Hid (wr.ownsRow w.heap.size 5 1 (.slice ou (cpre l1 l2 k).length cu) q (ik .u8 (l1 ++ l2)).toList ∧ Below w.heap.size w wr) := by have h3 := HN.out; rw [hke] at ho ⊢; rw [h3]; exact ⟨ho, hb⟩
          generalize (cpre l1 l2 k).length = x at HE2 ⊢
          clear ho hb hke HO HL HK HN HE
          go_wp2
          go_ret
          exact ⟨_, rfl, HE2.out⟩
end Go.Proofs.Ytceaklefdahfkaa
