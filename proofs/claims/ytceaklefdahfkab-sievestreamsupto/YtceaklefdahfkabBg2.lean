/- SieveBegins: texts with room behind them, and bytes. -/
import Derived.Test.YtceaklefdahfkabFn5
namespace Go.Proofs.Ytceaklefdahfkab
open Go.RowKit
def cpT (ty : Nat) (vs : Array Value) : Sem Value := Builtin.copy_ #[22, 22] ty vs
theorem toCpT (ty : Nat) (vs : Array Value) : Builtin.copy_ #[22, 22] ty vs = cpT ty vs := rfl
theorem size9 : (Try.prog.info? 9).map (·.size) = some 1 := by kernel_rfl
theorem sk_size (l : List ByteArray) : (sk l).size = l.length := by simp [sk]
/-- Texts copied. -/
theorem run_cpT (W : World) (ty g n : Nat) (l e : List ByteArray) (hl : e.length ≤ n) (hln : l.length = n) (v : Value) (hrow : W.heap[g]? = some (.cells (sk l) 9 (0, 0))) (hv : St v e W) :
    (cpT ty #[.slice (some ⟨g, 0, none⟩) n n, v]).run Try.prog W = .ok (goInt e.length) (W.setRow g (sk (e ++ l.drop e.length))) := by
  rcases hv with ⟨rfl, rfl⟩ | ⟨b, off, cap, rfl, hc1, hc2, hbl, hcell⟩
  · rw [List.length_nil, List.drop_zero, List.nil_append, setRow_self W g _ 9 _ hrow]
    exact run_copy_nil (P := Try.prog) W 22 22 ty 9 ⟨g, 0, none⟩ _ _ Try.underlying22 (by kernel_rfl)
  · by_cases h0 : e.length = 0
    · have e0 : e = [] := List.length_eq_zero_iff.1 h0
      subst e0
      rw [List.length_nil, List.drop_zero, List.nil_append, setRow_self W g _ 9 _ hrow]
      exact run_copy_none (P := Try.prog) W 22 22 ty 9 _ _ _ _ 0 cap Try.underlying22 size9 (by simp)
    have hc := run_copy_row (P := Try.prog) W 22 22 ty 9 g 0 n n ⟨b, off, none⟩ e.length cap _ 9 (sk e).toList Try.underlying22 size9 hrow (by rw [show (sk e).toList.length = e.length by simp [sk]]; exact (Nat.min_eq_left hl).symm) (fun j v hj => ?_) (by rw [sk_size]; simp [sk]; omega) (fun v hv => by simp [sk] at hv; obtain ⟨x, _, rfl⟩ := hv; rfl)
    · have e1 : ((sk l).toList.take 0 ++ (sk e).toList ++ (sk l).toList.drop (0 + (sk e).toList.length)).toArray = sk (e ++ l.drop e.length) := by
        simp [sk, List.map_drop]
      rw [e1] at hc
      have e2 : (sk e).toList.length = e.length := by simp [sk]
      rw [e2] at hc
      exact hc
    · have hj2 : j < e.length := by have := (List.getElem?_eq_some_iff.1 hj).1; simpa [sk] using this
      rw [Array.getElem?_toList, sk_get e j hj2] at hj
      rw [← Option.some.inj hj, Go.WideShapes.add_plain]
      exact hcell j _ (txt_get hj2)
/-- The mark. -/
def mrk : ByteArray := ⟨#[97, 32, 109, 97, 114, 107]⟩
attribute [local go_sem ↓] toMkS toCpT
set_option maxRecDepth 100000 in
theorem texts_any (l : List ByteArray) (hl : l.length ≤ 1073741824) (v : Value) (w : World) (hv : St v l w) :
    Calls Try.prog 36 #[v] w fun e w' => e = .returned (.slice (some ⟨w.heap.size, 0, none⟩) l.length (l.length + 2)) ∧ w'.heap[w.heap.size]? = some (.cells (sk (l ++ [mrk, ⟨#[]⟩])) 9 (0, 0)) ∧ Below w.heap.size w w' := by
  obtain ⟨W1, r1, R1, B1⟩ := run_mkS w (l.length + 2) (by omega)
  have R1' : W1.heap[w.heap.size]? = some (.cells (sk (List.replicate (l.length + 2) ⟨#[]⟩)) 9 (0, 0)) := by rw [R1]; simp [sk]
  have rc := fun ty => run_cpT W1 ty w.heap.size (l.length + 2) (List.replicate (l.length + 2) ⟨#[]⟩) l (by omega) (by simp) v R1' (hv.below B1)
  have ed : l ++ (List.replicate (l.length + 2) (⟨#[]⟩ : ByteArray)).drop l.length = l ++ [⟨#[]⟩, ⟨#[]⟩] := by
    rw [List.drop_replicate, show l.length + 2 - l.length = 2 by omega]; rfl
  rw [ed] at rc
  obtain ⟨W2, hW2⟩ : ∃ W2, W1.setRow w.heap.size (sk (l ++ [⟨#[]⟩, ⟨#[]⟩])) = W2 := ⟨_, rfl⟩
  have R2 : W2.heap[w.heap.size]? = some (.cells (sk (l ++ [⟨#[]⟩, ⟨#[]⟩])) 9 (0, 0)) := by rw [← hW2]; exact setRow_heap _ _ _ _ _ _ R1'
  have B2 : Below w.heap.size w W2 := by rw [← hW2]; exact below_setRow B1 (Nat.le_refl _) _
  have c2 : W2.cell? ⟨w.heap.size, l.length, none⟩ = some (.string ⟨#[]⟩) := by
    rw [cell_of_row W2 _ _ _ _ _ R2, sk_get _ _ (by simp)]
    simp [txt, List.getD]
  have f2 : W2.frozen? ⟨w.heap.size, l.length, none⟩ = false := frozen_of_row W2 _ _ _ _ R2
  have H : Hid ((W2.setCell ⟨w.heap.size, l.length, none⟩ (.string mrk)).heap[w.heap.size]? = some (.cells (sk (l ++ [mrk, ⟨#[]⟩])) 9 (0, 0)) ∧ Below w.heap.size w (W2.setCell ⟨w.heap.size, l.length, none⟩ (.string mrk))) := by
    refine ⟨?_, B2.setCell (Nat.le_refl _) _⟩
    have : l ++ [mrk, (⟨#[]⟩ : ByteArray)] = (l ++ [(⟨#[]⟩ : ByteArray), (⟨#[]⟩ : ByteArray)]).set l.length mrk := by simp
    rw [this, ← sk_set]
    exact heap_setCell_same _ _ _ _ _ _ R2
  have e1 : IntKind.i64.wrap ((l.length : Int) + 2) = ((l.length + 2 : Nat) : Int) := by rw [wi _ (by unfold I64; omega)]; omega
  have q0 : (0 : Int) ≤ (l.length : Int) := by omega
  have q1 : (l.length : Int) < ((l.length + 2 : Nat) : Int) := by omega
  have q2 : (l.length : Int) ≤ ((l.length + 2 : Nat) : Int) := by omega
  obtain ⟨o, c, hvo, _⟩ := hv.form
  subst hvo
  obtain ⟨N, hN⟩ : ∃ N, N = l.length + 2 := ⟨_, rfl⟩
  have HN : Hid (N = l.length + 2) := hN
  rw [← hN] at r1 rc e1 q1 q2 ⊢
  clear R1 R1' B1 hv R2 B2 ed hN
  have hm : (⟨#[97, 32, 109, 97, 114, 107]⟩ : ByteArray) = mrk := rfl
  go_enter Try.func36, Try.ntmps36
  go_wp2
  go_ret
  exact ⟨rfl, H.out⟩
set_option maxRecDepth 100000 in
theorem sameT_any (l : List ByteArray) (hl : l.length ≤ 1073741824) (v u : Value) (w : World) (hv : St v l w) (hu : St u l w) :
    Calls Try.prog 64 #[v, u] w fun e w' => e = .returned (.bool true) ∧ Below w.heap.size w w' := by
  obtain ⟨o1, c1, rfl, _, _, h1⟩ := hv.form
  obtain ⟨o2, c2, rfl, _, _, h2⟩ := hu.form
  have H1 : Hid (∀ j, j < l.length → ∃ b off, o1 = some ⟨b, off, none⟩ ∧ b < w.heap.size ∧ w.cell? ⟨b, off + j, none⟩ = some (.string (txt l j))) := fun j hj => by
    obtain ⟨b, off, q1, q2, q3⟩ := h1 (by omega)
    exact ⟨b, off, q1, q2, q3 j _ (txt_get hj)⟩
  have H2 : Hid (∀ j, j < l.length → ∃ b off, o2 = some ⟨b, off, none⟩ ∧ b < w.heap.size ∧ w.cell? ⟨b, off + j, none⟩ = some (.string (txt l j))) := fun j hj => by
    obtain ⟨b, off, q1, q2, q3⟩ := h2 (by omega)
    exact ⟨b, off, q1, q2, q3 j _ (txt_get hj)⟩
  clear hv hu h1 h2
  go_enter Try.func64, Try.ntmps64
  go_wp2_with fail
  go_loopw [5] (fun iv wr => ∃ i : Nat, iv = .int .i64 (i : Int) ∧ i ≤ l.length ∧ Hid (Below w.heap.size w wr)) (fun iv _ => l.length - (intOf iv).toNat)
  case atStart => exact ⟨0, rfl, by omega, Below.refl _ _⟩
  case round =>
    obtain ⟨i, rfl, hi, HB⟩ := hrel
    by_cases hlt : i < l.length
    · have hi0 : (0 : Int) ≤ (i : Int) := by omega
      have hi1 : (i : Int) < (l.length : Int) := by omega
      obtain ⟨b1, off1, rfl, q1, q2⟩ := H1.out i hlt
      obtain ⟨b2, off2, rfl, q3, q4⟩ := H2.out i hlt
      have k1 : wr.cell? ⟨b1, off1 + i, none⟩ = some (.string (txt l i)) := (World.cell?_of_block (w := w) (HB.out.block b1 q1)).trans q2
      have k2 : wr.cell? ⟨b2, off2 + i, none⟩ = some (.string (txt l i)) := (World.cell?_of_block (w := w) (HB.out.block b2 q3)).trans q4
      clear q2 q4
      generalize txt l i = t at *
      go_wp2_with fail
      go_quiet (fail)
      go_wp2
      exact ⟨⟨i + 1, by rfl, by omega, Below.drewN' HB.out nq⟩, by simp only [intOf]; omega⟩
    · have hi1 : ¬ ((i : Int) < (l.length : Int)) := by omega
      go_wp2
      go_ret
      exact ⟨rfl, HB.out⟩
set_option maxRecDepth 100000 in
theorem stood_any (l : List ByteArray) (hl : l.length ≤ 1073741824) (g : Nat) (u : Value) (w : World) (hg : w.heap[g]? = some (.cells (sk (l ++ [mrk, ⟨#[]⟩])) 9 (0, 0))) (hu : St u l w) :
    Calls Try.prog 38 #[.slice (some ⟨g, 0, none⟩) l.length (l.length + 2), u] w fun e w' => e = .returned (.bool true) ∧ Below w.heap.size w w' := by
  have hv : St (.slice (some ⟨g, 0, none⟩) l.length (l.length + 2)) l w := .inr ⟨g, 0, _, rfl, by omega, by unfold maxLen; omega, (Array.getElem?_eq_some_iff.1 hg).1, fun j s hj => by
    have hj2 : j < l.length := (List.getElem?_eq_some_iff.1 hj).1
    rw [Nat.zero_add, cell_of_row w _ _ _ _ _ hg, sk_get _ _ (by simp; omega)]
    have : txt (l ++ [mrk, ⟨#[]⟩]) j = s := by unfold txt; rw [List.getD, List.getElem?_append_left hj2, hj]; rfl
    rw [this]⟩
  have CS : Hid _ := sameT_any l hl _ u w hv hu
  have HC : Hid (∀ W, Below w.heap.size w W → W.cell? ⟨g, l.length, none⟩ = some (.string mrk)) := fun W hb => by
    rw [World.cell?_of_block (w := w) (hb.block g (Array.getElem?_eq_some_iff.1 hg).1), cell_of_row w _ _ _ _ _ hg, sk_get _ _ (by simp)]
    simp [txt, List.getD]
  obtain ⟨o, c, hvo, _⟩ := hu.form
  subst hvo
  have e1 : IntKind.i64.wrap ((l.length : Int) + 1) = ((l.length + 1 : Nat) : Int) := by rw [wi _ (by unfold I64; omega)]; omega
  have q0 : (0 : Int) ≤ (l.length : Int) := by omega
  have q1 : (l.length : Int) < ((l.length + 1 : Nat) : Int) := by omega
  have q2 : ((l.length + 1 : Nat) : Int) ≤ ((l.length + 2 : Nat) : Int) := by omega
  have q3 : (0 : Int) ≤ ((l.length + 1 : Nat) : Int) := by omega
  clear hg hv hu
  obtain ⟨N, hN⟩ : ∃ N, N = l.length + 2 := ⟨_, rfl⟩
  obtain ⟨N1, hN1⟩ : ∃ N1, N1 = l.length + 1 := ⟨_, rfl⟩
  rw [← hN] at q2 CS ⊢
  rw [← hN1] at q1 q2 e1 q3
  clear hN hN1
  go_enter Try.func38, Try.ntmps38
  go_wp2_with fail
  refine Calls.mono CS.out ?_
  rintro e W ⟨rfl, hb⟩
  have cm := HC.out W hb
  have HB : Hid _ := hb
  have hme : (mrk.toList == [97, 32, 109, 97, 114, 107]) = true := by rw [ByteArray.toList_eq]; rfl
  clear hb HC
  go_wp2
  go_ret
  exact ⟨rfl, HB.out⟩
def apB (ty : Nat) (vs : Array Value) : Sem Value := Builtin.append_ #[23, 23] ty vs
theorem toApB (ty : Nat) (vs : Array Value) : Builtin.append_ #[23, 23] ty vs = apB ty vs := rfl
/-- Bytes with two marks behind them. -/
theorem run_apM (w : World) (ty g : Nat) (d : List Nat) (hg : w.heap[g]? = some (.cells (ik .u8 d) 5 (0, 0))) (hl : d.length ≤ 1073741824) :
    ∃ v w', (apB ty #[.slice (some ⟨g, 0, none⟩) d.length d.length, .slice (some ⟨w.heap.size, 0, none⟩) 2 2]).run Try.prog (w.alloc (.cells #[.int .u8 90, .int .u8 165] 5)) = .ok v w' ∧ Si .u8 v (d ++ [90, 165]) w' ∧ Below g w w' ∧ (∀ k, v.ownBlock = some k → g ≤ k) := by
  have gz : g < w.heap.size := (Array.getElem?_eq_some_iff.1 hg).1
  obtain ⟨i0, hi0, hz0, hz1, hz2⟩ := info_parts info5
  have hown : w.ownsRow g 5 1 (.slice (some ⟨g, 0, none⟩) d.length d.length) d.length (ik .u8 d).toList := ⟨by simp [ik_size], .inr ⟨g, d.length, ik .u8 d, rfl, Nat.le_refl _, hg, Nat.le_refl _, by unfold maxLen; omega, by simp [ik_size], by rw [Nat.mul_one, List.take_of_length_le (by simp [ik])]⟩⟩
  obtain ⟨v, w', hr, ho, hgr, _, _⟩ := run_append_own_at (P := Try.prog) (w.alloc (.cells #[.int .u8 90, .int .u8 165] 5)) g 23 ty 5 i0 _ 1 1 Try.underlying23 hi0 hz0 hz1 hz2 rfl (by omega) _ d.length _ (hown.alloc _) ⟨w.heap.size, 0, none⟩ 2 2 [.int .u8 90, .int .u8 165] rfl
    (World.news_of_block (cs := #[.int .u8 90, .int .u8 165]) (t := 5) (fr := (0, 0)) (heap_alloc_new w _)) (fun u hu => by simp at hu; rcases hu with rfl | rfl <;> rfl) (by unfold maxLen; omega) (by omega) (by simp; omega)
  have e : (ik .u8 d).toList ++ [Value.int .u8 90, Value.int .u8 165] = (ik .u8 (d ++ [90, 165])).toList := by simp [ik]
  rw [e] at ho
  refine ⟨v, w', hr, own_si ho (by simp), ⟨by rw [hgr.os]; rfl, by rw [hgr.tape]; rfl, by rw [hgr.output]; rfl, by have := hgr.size; simp at this; omega, fun j hj => ?_⟩, fun k hk => (ho.lt k hk).1⟩
  rw [hgr.block j (by simp; omega) (fun e => by
    have : g = j := by cases e; rfl
    omega), heap_alloc_old _ _ (h := by omega)]
attribute [local go_sem ↓] toApB toSlB
set_option maxRecDepth 100000 in
theorem roomy_any (d : List Nat) (hd : d.length ≤ 1073741824) (v : Value) (w : World) (hv : Si .u8 v d w) :
    Calls Try.prog 29 #[v] w fun e w' => ∃ u, e = .returned u ∧ Si .u8 u (d ++ [90, 165]) w' ∧ Below w.heap.size w w' := by
  have CC : Hid _ := copied_any d hd v w hv
  have ADD : Hid (∀ W, W.heap[w.heap.size]? = some (.cells (ik .u8 d) 5 (0, 0)) → Below w.heap.size w W → ∃ u W', (apB 23 #[.slice (some ⟨w.heap.size, 0, none⟩) d.length d.length, .slice (some ⟨W.heap.size, 0, none⟩) 2 2]).run Try.prog (W.alloc (.cells #[.int .u8 90, .int .u8 165] 5)) = .ok u W' ∧ Hid (Si .u8 u (d ++ [90, 165]) W' ∧ Below w.heap.size w W')) := fun W hr hb => by
    obtain ⟨u, W', r, hs, hb2, _⟩ := run_apM W 23 w.heap.size d hr hd
    exact ⟨u, W', r, hs, hb.trans hb2⟩
  clear hv
  go_enter Try.func29, Try.ntmps29
  go_wp2_with fail
  refine Calls.mono CC.out ?_
  rintro e W ⟨rfl, hr, hb, hz⟩
  obtain ⟨u, W', r, HE⟩ := ADD.out W hr hb
  clear hr hb hz
  go_wp2
  go_ret
  exact ⟨u, rfl, HE.out⟩
theorem run_cutH (b off n c h : Nat) (h2 : h ≤ c) (w : World) : (slB (.slice (some ⟨b, off, none⟩) n c) none (some (.int .i64 (h : Int))) none).run Try.prog w = .ok (.slice (some ⟨b, off, none⟩) h c) w := by
  have := run_slice_h (P := Try.prog) w 23 (some ⟨b, off, none⟩) n c u27 .i64 (h : Int) (by omega) (by omega)
  unfold slB
  rw [this, elem27, run_size1 w size5]
  simp only [Result.andThen, sliced, Int.toNat_natCast, Nat.sub_zero, Nat.zero_mul]
  split
  · rfl
  · rw [Option.map_some, Go.WideShapes.add_plain]; rfl
/-- The first of some bytes. -/
theorem Si.cut {b off n c : Nat} {l e : List Nat} {w : World} (h : Si .u8 (.slice (some ⟨b, off, none⟩) n c) (l ++ e) w) : Si .u8 (.slice (some ⟨b, off, none⟩) l.length c) l w := by
  rcases h with ⟨h1, _⟩ | ⟨b', off', cap, h1, h2, h3, h4, h5⟩
  · cases h1
  · cases h1
    rw [List.length_append] at h2
    refine .inr ⟨b, off, c, rfl, by omega, h3, h4, fun j hj => ?_⟩
    rw [h5 j (by rw [List.length_append]; omega)]
    have : (l ++ e).getD j 0 = l.getD j 0 := by rw [List.getD, List.getElem?_append_left hj, ← List.getD]
    rw [this]
set_option maxRecDepth 100000 in
theorem kept_any (d : List Nat) (hd : d.length ≤ 1073741824) (v u : Value) (w : World) (hv : Si .u8 v (d ++ [90, 165]) w) (hu : Si .u8 u d w) :
    Calls Try.prog 35 #[v, u] w fun e w' => e = .returned (.bool true) ∧ Below w.heap.size w w' := by
  obtain ⟨o, c, rfl, hc1, hc2, hf⟩ := hv.form
  obtain ⟨b, off, rfl, hb, hcl⟩ := hf (by simp)
  rw [List.length_append] at hc1 hcl
  have l2 : ([90, 165] : List Nat).length = 2 := rfl
  rw [l2] at hc1 hcl
  have c0 : w.cell? ⟨b, off + d.length, none⟩ = some (.int .u8 90) := by
    rw [hcl d.length (by omega)]; simp [List.getD]
  have c1 : w.cell? ⟨b, off + (d.length + 1), none⟩ = some (.int .u8 165) := by
    rw [hcl (d.length + 1) (by omega)]; simp [List.getD]
  have v1 : ∀ n, (convert 23 9 (.slice (some ⟨b, off, none⟩) d.length c)).run Try.prog (w.drewN n) = .ok (.string (bst d)) (w.drewN n) := fun n => conv_si (hv.cut.keep (w' := w.drewN n) (Nat.le_refl _) fun _ _ _ => rfl)
  have v2 : ∀ n, (convert 23 9 u).run Try.prog (w.drewN n) = .ok (.string (bst d)) (w.drewN n) := fun n => conv_si (hu.keep (w' := w.drewN n) (Nat.le_refl _) fun _ _ _ => rfl)
  have ct := run_cutH b off (d.length + 2) c d.length (by omega)
  obtain ⟨ou, cu, hvo, _⟩ := hu.form
  subst hvo
  have e0 : (d ++ [90, 165]).length = d.length + 2 := by simp
  rw [e0]
  have e1 : IntKind.i64.wrap ((d.length : Int) + 1) = ((d.length + 1 : Nat) : Int) := by rw [wi _ (by unfold I64; omega)]; omega
  obtain ⟨N, hN⟩ : ∃ N, N = d.length + 2 := ⟨_, rfl⟩
  obtain ⟨N1, hN1⟩ : ∃ N1, N1 = d.length + 1 := ⟨_, rfl⟩
  have q0 : (0 : Int) ≤ (d.length : Int) := by omega
  have q1 : (d.length : Int) < (N : Int) := by omega
  have q2 : (0 : Int) ≤ (N1 : Int) := by omega
  have q3 : (N1 : Int) < (N : Int) := by omega
  rw [← hN] at ct ⊢
  rw [← hN1] at c1 e1
  clear hv hu hf hcl hN hN1 e0 hc1 l2
  generalize bst d = t at *
  go_enter Try.func35, Try.ntmps35
  go_wp2_with fail
  go_quiet (fail)
  go_wp2
  go_ret
  exact ⟨rfl, Below.drewN' (Below.refl _ _) nq⟩
end Go.Proofs.Ytceaklefdahfkab
