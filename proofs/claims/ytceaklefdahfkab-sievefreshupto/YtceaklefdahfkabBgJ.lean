/- Several texts in one: Bg2, Bg3, Bg4, Bg5, Bg6. -/
import Derived.Test.YtceaklefdahfkabFn5
import Derived.Lib.ConvBytes
import Derived.BigRegion
/- SieveBegins: texts with room behind them, and bytes. -/
namespace Go.Proofs.Ytceaklefdahfkab
open Go.RowKit
def cpT (ty : Nat) (vs : Array Value) : Sem Value := Builtin.copy_ #[22, 22] ty vs
theorem toCpT (ty : Nat) (vs : Array Value) : Builtin.copy_ #[22, 22] ty vs = cpT ty vs := rfl
theorem size9 : (Try.prog.info? 9).map (·.size) = some 1 := by kernel_rfl
theorem sk_size (l : List ByteArray) : (sk l).size = l.length := by simp [sk]
/-- Texts copied. -/
theorem run_cpT (W : World) (ty g n : Nat) (l e : List ByteArray) (hl : e.length ≤ n) (hln : l.length = n) (v : Value) (hrow : W.heap[g]? = some (.cells (sk l) 9 (0, 0))) (hv : St v e W) :
    (cpT ty #[.slice (some ⟨g, 0, none⟩) n n, v]).run Try.prog W = .ok (goInt e.length) (W.setRow g (sk (e ++ l.drop e.length))) := by
  rcases hv with ⟨rfl, rfl⟩ | ⟨b, off, cap, rfl, hc1, hc2, hbl, hcell⟩
  · rw [List.length_nil, List.drop_zero, List.nil_append, setRow_self W g _ 9 _ hrow]
    exact run_copy_nil (P := Try.prog) W 22 22 ty 9 ⟨g, 0, none⟩ _ _ Try.underlying22 (by kernel_rfl)
  · by_cases h0 : e.length = 0
    · have e0 : e = [] := List.length_eq_zero_iff.1 h0
      subst e0
      rw [List.length_nil, List.drop_zero, List.nil_append, setRow_self W g _ 9 _ hrow]
      exact run_copy_none (P := Try.prog) W 22 22 ty 9 _ _ _ _ 0 cap Try.underlying22 size9 (by simp)
    have hc := run_copy_row (P := Try.prog) W 22 22 ty 9 g 0 n n ⟨b, off, none⟩ e.length cap _ 9 (sk e).toList Try.underlying22 size9 hrow (by rw [show (sk e).toList.length = e.length by simp [sk]]; exact (Nat.min_eq_left hl).symm) (fun j v hj => ?_) (by rw [sk_size]; simp [sk]; omega) (fun v hv => by simp [sk] at hv; obtain ⟨x, _, rfl⟩ := hv; rfl)
    · have e1 : ((sk l).toList.take 0 ++ (sk e).toList ++ (sk l).toList.drop (0 + (sk e).toList.length)).toArray = sk (e ++ l.drop e.length) := by
        simp [sk, List.map_drop]
      rw [e1] at hc
      have e2 : (sk e).toList.length = e.length := by simp [sk]
      rw [e2] at hc
      exact hc
    · have hj2 : j < e.length := by have := (List.getElem?_eq_some_iff.1 hj).1; simpa [sk] using this
      rw [Array.getElem?_toList, sk_get e j hj2] at hj
      rw [← Option.some.inj hj, Go.WideShapes.add_plain]
      exact hcell j _ (txt_get hj2)
/-- The mark. -/
def mrk : ByteArray := ⟨#[97, 32, 109, 97, 114, 107]⟩
attribute [local go_sem ↓] toMkS toCpT
set_option maxRecDepth 100000 in
theorem texts_any (l : List ByteArray) (hl : l.length ≤ 1073741824) (v : Value) (w : World) (hv : St v l w) :
    Calls Try.prog 36 #[v] w fun e w' => e = .returned (.slice (some ⟨w.heap.size, 0, none⟩) l.length (l.length + 2)) ∧ w'.heap[w.heap.size]? = some (.cells (sk (l ++ [mrk, ⟨#[]⟩])) 9 (0, 0)) ∧ Below w.heap.size w w' := by
  obtain ⟨W1, r1, R1, B1⟩ := run_mkS w (l.length + 2) (by omega)
  have R1' : W1.heap[w.heap.size]? = some (.cells (sk (List.replicate (l.length + 2) ⟨#[]⟩)) 9 (0, 0)) := by rw [R1]; simp [sk]
  have rc := fun ty => run_cpT W1 ty w.heap.size (l.length + 2) (List.replicate (l.length + 2) ⟨#[]⟩) l (by omega) (by simp) v R1' (hv.below B1)
  have ed : l ++ (List.replicate (l.length + 2) (⟨#[]⟩ : ByteArray)).drop l.length = l ++ [⟨#[]⟩, ⟨#[]⟩] := by
    rw [List.drop_replicate, show l.length + 2 - l.length = 2 by omega]; rfl
  rw [ed] at rc
  obtain ⟨W2, hW2⟩ : ∃ W2, W1.setRow w.heap.size (sk (l ++ [⟨#[]⟩, ⟨#[]⟩])) = W2 := ⟨_, rfl⟩
  have R2 : W2.heap[w.heap.size]? = some (.cells (sk (l ++ [⟨#[]⟩, ⟨#[]⟩])) 9 (0, 0)) := by rw [← hW2]; exact setRow_heap _ _ _ _ _ _ R1'
  have B2 : Below w.heap.size w W2 := by rw [← hW2]; exact below_setRow B1 (Nat.le_refl _) _
  have c2 : W2.cell? ⟨w.heap.size, l.length, none⟩ = some (.string ⟨#[]⟩) := by
    rw [cell_of_row W2 _ _ _ _ _ R2, sk_get _ _ (by simp)]
    simp [txt, List.getD]
  have f2 : W2.frozen? ⟨w.heap.size, l.length, none⟩ = false := frozen_of_row W2 _ _ _ _ R2
  have H : Hid ((W2.setCell ⟨w.heap.size, l.length, none⟩ (.string mrk)).heap[w.heap.size]? = some (.cells (sk (l ++ [mrk, ⟨#[]⟩])) 9 (0, 0)) ∧ Below w.heap.size w (W2.setCell ⟨w.heap.size, l.length, none⟩ (.string mrk))) := by
    refine ⟨?_, B2.setCell (Nat.le_refl _) _⟩
    have : l ++ [mrk, (⟨#[]⟩ : ByteArray)] = (l ++ [(⟨#[]⟩ : ByteArray), (⟨#[]⟩ : ByteArray)]).set l.length mrk := by simp
    rw [this, ← sk_set]
    exact heap_setCell_same _ _ _ _ _ _ R2
  have e1 : IntKind.i64.wrap ((l.length : Int) + 2) = ((l.length + 2 : Nat) : Int) := by rw [wi _ (by unfold I64; omega)]; omega
  have q0 : (0 : Int) ≤ (l.length : Int) := by omega
  have q1 : (l.length : Int) < ((l.length + 2 : Nat) : Int) := by omega
  have q2 : (l.length : Int) ≤ ((l.length + 2 : Nat) : Int) := by omega
  obtain ⟨o, c, hvo, _⟩ := hv.form
  subst hvo
  obtain ⟨N, hN⟩ : ∃ N, N = l.length + 2 := ⟨_, rfl⟩
  have HN : Hid (N = l.length + 2) := hN
  rw [← hN] at r1 rc e1 q1 q2 ⊢
  clear R1 R1' B1 hv R2 B2 ed hN
  have hm : (⟨#[97, 32, 109, 97, 114, 107]⟩ : ByteArray) = mrk := rfl
  go_enter Try.func36, Try.ntmps36
  go_wp2
  go_ret
  exact ⟨rfl, H.out⟩
set_option maxRecDepth 100000 in
theorem sameT_any (l : List ByteArray) (hl : l.length ≤ 1073741824) (v u : Value) (w : World) (hv : St v l w) (hu : St u l w) :
    Calls Try.prog 64 #[v, u] w fun e w' => e = .returned (.bool true) ∧ Below w.heap.size w w' := by
  obtain ⟨o1, c1, rfl, _, _, h1⟩ := hv.form
  obtain ⟨o2, c2, rfl, _, _, h2⟩ := hu.form
  have H1 : Hid (∀ j, j < l.length → ∃ b off, o1 = some ⟨b, off, none⟩ ∧ b < w.heap.size ∧ w.cell? ⟨b, off + j, none⟩ = some (.string (txt l j))) := fun j hj => by
    obtain ⟨b, off, q1, q2, q3⟩ := h1 (by omega)
    exact ⟨b, off, q1, q2, q3 j _ (txt_get hj)⟩
  have H2 : Hid (∀ j, j < l.length → ∃ b off, o2 = some ⟨b, off, none⟩ ∧ b < w.heap.size ∧ w.cell? ⟨b, off + j, none⟩ = some (.string (txt l j))) := fun j hj => by
    obtain ⟨b, off, q1, q2, q3⟩ := h2 (by omega)
    exact ⟨b, off, q1, q2, q3 j _ (txt_get hj)⟩
  clear hv hu h1 h2
  go_enter Try.func64, Try.ntmps64
  go_wp2_with fail
  go_loopw [5] (fun iv wr => ∃ i : Nat, iv = .int .i64 (i : Int) ∧ i ≤ l.length ∧ Hid (Below w.heap.size w wr)) (fun iv _ => l.length - (intOf iv).toNat)
  case atStart => exact ⟨0, rfl, by omega, Below.refl _ _⟩
  case round =>
    obtain ⟨i, rfl, hi, HB⟩ := hrel
    by_cases hlt : i < l.length
    · have hi0 : (0 : Int) ≤ (i : Int) := by omega
      have hi1 : (i : Int) < (l.length : Int) := by omega
      obtain ⟨b1, off1, rfl, q1, q2⟩ := H1.out i hlt
      obtain ⟨b2, off2, rfl, q3, q4⟩ := H2.out i hlt
      have k1 : wr.cell? ⟨b1, off1 + i, none⟩ = some (.string (txt l i)) := (World.cell?_of_block (w := w) (HB.out.block b1 q1)).trans q2
      have k2 : wr.cell? ⟨b2, off2 + i, none⟩ = some (.string (txt l i)) := (World.cell?_of_block (w := w) (HB.out.block b2 q3)).trans q4
      clear q2 q4
      generalize txt l i = t at *
      go_wp2_with fail
      go_quiet (fail)
      go_wp2
      exact ⟨⟨i + 1, by rfl, by omega, Below.drewN' HB.out nq⟩, by simp only [intOf]; omega⟩
    · have hi1 : ¬ ((i : Int) < (l.length : Int)) := by omega
      go_wp2
      go_ret
      exact ⟨rfl, HB.out⟩
set_option maxRecDepth 100000 in
theorem stood_any (l : List ByteArray) (hl : l.length ≤ 1073741824) (g : Nat) (u : Value) (w : World) (hg : w.heap[g]? = some (.cells (sk (l ++ [mrk, ⟨#[]⟩])) 9 (0, 0))) (hu : St u l w) :
    Calls Try.prog 38 #[.slice (some ⟨g, 0, none⟩) l.length (l.length + 2), u] w fun e w' => e = .returned (.bool true) ∧ Below w.heap.size w w' := by
  have hv : St (.slice (some ⟨g, 0, none⟩) l.length (l.length + 2)) l w := .inr ⟨g, 0, _, rfl, by omega, by unfold maxLen; omega, (Array.getElem?_eq_some_iff.1 hg).1, fun j s hj => by
    have hj2 : j < l.length := (List.getElem?_eq_some_iff.1 hj).1
    rw [Nat.zero_add, cell_of_row w _ _ _ _ _ hg, sk_get _ _ (by simp; omega)]
    have : txt (l ++ [mrk, ⟨#[]⟩]) j = s := by unfold txt; rw [List.getD, List.getElem?_append_left hj2, hj]; rfl
    rw [this]⟩
  have CS : Hid _ := sameT_any l hl _ u w hv hu
  have HC : Hid (∀ W, Below w.heap.size w W → W.cell? ⟨g, l.length, none⟩ = some (.string mrk)) := fun W hb => by
    rw [World.cell?_of_block (w := w) (hb.block g (Array.getElem?_eq_some_iff.1 hg).1), cell_of_row w _ _ _ _ _ hg, sk_get _ _ (by simp)]
    simp [txt, List.getD]
  obtain ⟨o, c, hvo, _⟩ := hu.form
  subst hvo
  have e1 : IntKind.i64.wrap ((l.length : Int) + 1) = ((l.length + 1 : Nat) : Int) := by rw [wi _ (by unfold I64; omega)]; omega
  have q0 : (0 : Int) ≤ (l.length : Int) := by omega
  have q1 : (l.length : Int) < ((l.length + 1 : Nat) : Int) := by omega
  have q2 : ((l.length + 1 : Nat) : Int) ≤ ((l.length + 2 : Nat) : Int) := by omega
  have q3 : (0 : Int) ≤ ((l.length + 1 : Nat) : Int) := by omega
  clear hg hv hu
  obtain ⟨N, hN⟩ : ∃ N, N = l.length + 2 := ⟨_, rfl⟩
  obtain ⟨N1, hN1⟩ : ∃ N1, N1 = l.length + 1 := ⟨_, rfl⟩
  rw [← hN] at q2 CS ⊢
  rw [← hN1] at q1 q2 e1 q3
  clear hN hN1
  go_enter Try.func38, Try.ntmps38
  go_wp2_with fail
  refine Calls.mono CS.out ?_
  rintro e W ⟨rfl, hb⟩
  have cm := HC.out W hb
  have HB : Hid _ := hb
  have hme : (mrk.toList == [97, 32, 109, 97, 114, 107]) = true := by rw [ByteArray.toList_eq]; rfl
  clear hb HC
  go_wp2
  go_ret
  exact ⟨rfl, HB.out⟩
def apB (ty : Nat) (vs : Array Value) : Sem Value := Builtin.append_ #[23, 23] ty vs
theorem toApB (ty : Nat) (vs : Array Value) : Builtin.append_ #[23, 23] ty vs = apB ty vs := rfl
/-- Bytes with two marks behind them. -/
theorem run_apM (w : World) (ty g : Nat) (d : List Nat) (hg : w.heap[g]? = some (.cells (ik .u8 d) 5 (0, 0))) (hl : d.length ≤ 1073741824) :
    ∃ v w', (apB ty #[.slice (some ⟨g, 0, none⟩) d.length d.length, .slice (some ⟨w.heap.size, 0, none⟩) 2 2]).run Try.prog (w.alloc (.cells #[.int .u8 90, .int .u8 165] 5)) = .ok v w' ∧ Si .u8 v (d ++ [90, 165]) w' ∧ Below g w w' ∧ (∀ k, v.ownBlock = some k → g ≤ k) := by
  have gz : g < w.heap.size := (Array.getElem?_eq_some_iff.1 hg).1
  obtain ⟨i0, hi0, hz0, hz1, hz2⟩ := info_parts info5
  have hown : w.ownsRow g 5 1 (.slice (some ⟨g, 0, none⟩) d.length d.length) d.length (ik .u8 d).toList := ⟨by simp [ik_size], .inr ⟨g, d.length, ik .u8 d, rfl, Nat.le_refl _, hg, Nat.le_refl _, by unfold maxLen; omega, by simp [ik_size], by rw [Nat.mul_one, List.take_of_length_le (by simp [ik])]⟩⟩
  obtain ⟨v, w', hr, ho, hgr, _, _⟩ := run_append_own_at (P := Try.prog) (w.alloc (.cells #[.int .u8 90, .int .u8 165] 5)) g 23 ty 5 i0 _ 1 1 Try.underlying23 hi0 hz0 hz1 hz2 rfl (by omega) _ d.length _ (hown.alloc _) ⟨w.heap.size, 0, none⟩ 2 2 [.int .u8 90, .int .u8 165] rfl
    (World.news_of_block (cs := #[.int .u8 90, .int .u8 165]) (t := 5) (fr := (0, 0)) (heap_alloc_new w _)) (fun u hu => by simp at hu; rcases hu with rfl | rfl <;> rfl) (by unfold maxLen; omega) (by omega) (by simp; omega)
  have e : (ik .u8 d).toList ++ [Value.int .u8 90, Value.int .u8 165] = (ik .u8 (d ++ [90, 165])).toList := by simp [ik]
  rw [e] at ho
  refine ⟨v, w', hr, own_si ho (by simp), ⟨by rw [hgr.os]; rfl, by rw [hgr.tape]; rfl, by rw [hgr.output]; rfl, by have := hgr.size; simp at this; omega, fun j hj => ?_⟩, fun k hk => (ho.lt k hk).1⟩
  rw [hgr.block j (by simp; omega) (fun e => by
    have : g = j := by cases e; rfl
    omega), heap_alloc_old _ _ (h := by omega)]
attribute [local go_sem ↓] toApB toSlB
set_option maxRecDepth 100000 in
theorem roomy_any (d : List Nat) (hd : d.length ≤ 1073741824) (v : Value) (w : World) (hv : Si .u8 v d w) :
    Calls Try.prog 29 #[v] w fun e w' => ∃ u, e = .returned u ∧ Si .u8 u (d ++ [90, 165]) w' ∧ Below w.heap.size w w' := by
  have CC : Hid _ := copied_any d hd v w hv
  have ADD : Hid (∀ W, W.heap[w.heap.size]? = some (.cells (ik .u8 d) 5 (0, 0)) → Below w.heap.size w W → ∃ u W', (apB 23 #[.slice (some ⟨w.heap.size, 0, none⟩) d.length d.length, .slice (some ⟨W.heap.size, 0, none⟩) 2 2]).run Try.prog (W.alloc (.cells #[.int .u8 90, .int .u8 165] 5)) = .ok u W' ∧ Hid (Si .u8 u (d ++ [90, 165]) W' ∧ Below w.heap.size w W')) := fun W hr hb => by
    obtain ⟨u, W', r, hs, hb2, _⟩ := run_apM W 23 w.heap.size d hr hd
    exact ⟨u, W', r, hs, hb.trans hb2⟩
  clear hv
  go_enter Try.func29, Try.ntmps29
  go_wp2_with fail
  refine Calls.mono CC.out ?_
  rintro e W ⟨rfl, hr, hb, hz⟩
  obtain ⟨u, W', r, HE⟩ := ADD.out W hr hb
  clear hr hb hz
  go_wp2
  go_ret
  exact ⟨u, rfl, HE.out⟩
theorem run_cutH (b off n c h : Nat) (h2 : h ≤ c) (w : World) : (slB (.slice (some ⟨b, off, none⟩) n c) none (some (.int .i64 (h : Int))) none).run Try.prog w = .ok (.slice (some ⟨b, off, none⟩) h c) w := by
  have := run_slice_h (P := Try.prog) w 23 (some ⟨b, off, none⟩) n c u27 .i64 (h : Int) (by omega) (by omega)
  unfold slB
  rw [this, elem27, run_size1 w size5]
  simp only [Result.andThen, sliced, Int.toNat_natCast, Nat.sub_zero, Nat.zero_mul]
  split
  · rfl
  · rw [Option.map_some, Go.WideShapes.add_plain]; rfl
/-- The first of some bytes. -/
theorem Si.cut {b off n c : Nat} {l e : List Nat} {w : World} (h : Si .u8 (.slice (some ⟨b, off, none⟩) n c) (l ++ e) w) : Si .u8 (.slice (some ⟨b, off, none⟩) l.length c) l w := by
  rcases h with ⟨h1, _⟩ | ⟨b', off', cap, h1, h2, h3, h4, h5⟩
  · cases h1
  · cases h1
    rw [List.length_append] at h2
    refine .inr ⟨b, off, c, rfl, by omega, h3, h4, fun j hj => ?_⟩
    rw [h5 j (by rw [List.length_append]; omega)]
    have : (l ++ e).getD j 0 = l.getD j 0 := by rw [List.getD, List.getElem?_append_left hj, ← List.getD]
    rw [this]
set_option maxRecDepth 100000 in
theorem kept_any (d : List Nat) (hd : d.length ≤ 1073741824) (v u : Value) (w : World) (hv : Si .u8 v (d ++ [90, 165]) w) (hu : Si .u8 u d w) :
    Calls Try.prog 35 #[v, u] w fun e w' => e = .returned (.bool true) ∧ Below w.heap.size w w' := by
  obtain ⟨o, c, rfl, hc1, hc2, hf⟩ := hv.form
  obtain ⟨b, off, rfl, hb, hcl⟩ := hf (by simp)
  rw [List.length_append] at hc1 hcl
  have l2 : ([90, 165] : List Nat).length = 2 := rfl
  rw [l2] at hc1 hcl
  have c0 : w.cell? ⟨b, off + d.length, none⟩ = some (.int .u8 90) := by
    rw [hcl d.length (by omega)]; simp [List.getD]
  have c1 : w.cell? ⟨b, off + (d.length + 1), none⟩ = some (.int .u8 165) := by
    rw [hcl (d.length + 1) (by omega)]; simp [List.getD]
  have v1 : ∀ n, (convert 23 9 (.slice (some ⟨b, off, none⟩) d.length c)).run Try.prog (w.drewN n) = .ok (.string (bst d)) (w.drewN n) := fun n => conv_si (hv.cut.keep (w' := w.drewN n) (Nat.le_refl _) fun _ _ _ => rfl)
  have v2 : ∀ n, (convert 23 9 u).run Try.prog (w.drewN n) = .ok (.string (bst d)) (w.drewN n) := fun n => conv_si (hu.keep (w' := w.drewN n) (Nat.le_refl _) fun _ _ _ => rfl)
  have ct := run_cutH b off (d.length + 2) c d.length (by omega)
  obtain ⟨ou, cu, hvo, _⟩ := hu.form
  subst hvo
  have e0 : (d ++ [90, 165]).length = d.length + 2 := by simp
  rw [e0]
  have e1 : IntKind.i64.wrap ((d.length : Int) + 1) = ((d.length + 1 : Nat) : Int) := by rw [wi _ (by unfold I64; omega)]; omega
  obtain ⟨N, hN⟩ : ∃ N, N = d.length + 2 := ⟨_, rfl⟩
  obtain ⟨N1, hN1⟩ : ∃ N1, N1 = d.length + 1 := ⟨_, rfl⟩
  have q0 : (0 : Int) ≤ (d.length : Int) := by omega
  have q1 : (d.length : Int) < (N : Int) := by omega
  have q2 : (0 : Int) ≤ (N1 : Int) := by omega
  have q3 : (N1 : Int) < (N : Int) := by omega
  rw [← hN] at ct ⊢
  rw [← hN1] at c1 e1
  clear hv hu hf hcl hN hN1 e0 hc1 l2
  generalize bst d = t at *
  go_enter Try.func35, Try.ntmps35
  go_wp2_with fail
  go_quiet (fail)
  go_wp2
  go_ret
  exact ⟨rfl, Below.drewN' (Below.refl _ _) nq⟩
end Go.Proofs.Ytceaklefdahfkab

/- SieveBegins: the document's sieve, as it lies. -/
namespace Go.Proofs.Ytceaklefdahfkab
open Go.RowKit
/-- Its cells. -/
def rfC (lv : Value) (fv : Nat → Value) (m : Nat) : Array Value := (lv :: ((List.range 256).map fv ++ [.int .i64 (m : Int)])).toArray
theorem rfC_0 (lv : Value) (fv : Nat → Value) (m : Nat) : (rfC lv fv m)[0]? = some lv := by simp [rfC]
theorem rfC_f (lv : Value) (fv : Nat → Value) (m c : Nat) (h : c < 256) : (rfC lv fv m)[1 + c]? = some (fv c) := by
  unfold rfC
  rw [List.getElem?_toArray, Nat.add_comm 1 c, List.getElem?_cons_succ, List.getElem?_append_left (by simpa using h)]
  simp [h]
theorem rfC_w (lv : Value) (fv : Nat → Value) (m : Nat) : (rfC lv fv m)[257]? = some (.int .i64 (m : Int)) := by
  unfold rfC
  rw [List.getElem?_toArray, List.getElem?_cons_succ, List.getElem?_append_right (by simp)]
  simp
theorem rfC_s0 (lv v : Value) (fv : Nat → Value) (m : Nat) : (rfC lv fv m).setIfInBounds 0 v = rfC v fv m := by simp [rfC]
/-- One slice another. -/
def upd (fv : Nat → Value) (c : Nat) (v : Value) : Nat → Value := fun j => if j = c then v else fv j
theorem rfC_sf (lv v : Value) (fv : Nat → Value) (m c : Nat) (h : c < 256) : (rfC lv fv m).setIfInBounds (1 + c) v = rfC lv (upd fv c v) m := by
  unfold rfC
  rw [List.setIfInBounds_toArray, Nat.add_comm 1 c, List.set_cons_succ, List.set_append_left _ _ (by simpa using h)]
  congr 3
  apply List.ext_getElem
  · simp
  · intro i h1 h2
    simp [List.getElem_set, upd]
    by_cases hc : c = i
    · simp [hc]
    · simp [hc, Ne.symm hc]
theorem rfC_sw (lv : Value) (fv : Nat → Value) (m x : Nat) : (rfC lv fv m).setIfInBounds 257 (.int .i64 (x : Int)) = rfC lv fv x := by
  unfold rfC
  rw [List.setIfInBounds_toArray, List.set_cons_succ, List.set_append_right _ _ (by simp)]
  simp
set_option maxRecDepth 100000 in
theorem zero95 : Try.zeroCells108 = rfC (.slice none 0 0) (fun _ => .slice none 0 0) 0 := by kernel_rfl
structure Rf (g : Nat) (lv : Value) (fv : Nat → Value) (l : List ByteArray) (F : Nat → List Nat) (m : Nat) (w : World) : Prop where
  row : w.heap[g]? = some (.cells (rfC lv fv m) 108 (0, 0))
  ol : w.ownsRow (g + 1) 9 1 lv l.length (sk l).toList
  of : ∀ c, c < 256 → w.ownsRow (g + 1) 3 1 (fv c) (F c).length (ik .i64 (F c)).toList
  sl : ∀ c, c < 256 → ∀ k, lv.ownBlock = some k → ¬ (fv c).ownBlock = some k
  sf : ∀ c d, c < 256 → d < 256 → c ≠ d → ∀ k, (fv c).ownBlock = some k → ¬ (fv d).ownBlock = some k
theorem Rf.gz {g : Nat} {lv : Value} {fv : Nat → Value} {l : List ByteArray} {F : Nat → List Nat} {m : Nat} {w : World} (h : Rf g lv fv l F m w) : g + 1 ≤ w.heap.size := (Array.getElem?_eq_some_iff.1 h.row).1
theorem Rf.keep {g : Nat} {lv : Value} {fv : Nat → Value} {l : List ByteArray} {F : Nat → List Nat} {m : Nat} {w w' : World} (h : Rf g lv fv l F m w) (hb : ∀ j, g ≤ j → j < w.heap.size → w'.heap[j]? = w.heap[j]?) : Rf g lv fv l F m w' :=
  ⟨(hb g (Nat.le_refl _) h.gz).trans h.row, own_keep2 h.ol fun k hk => hb k (by have := (h.ol.lt k hk).1; omega) (h.ol.lt k hk).2, fun c hc => own_keep2 (h.of c hc) fun k hk => hb k (by have := ((h.of c hc).lt k hk).1; omega) ((h.of c hc).lt k hk).2, h.sl, h.sf⟩
theorem Rf.below {g : Nat} {lv : Value} {fv : Nat → Value} {l : List ByteArray} {F : Nat → List Nat} {m : Nat} {w w' : World} (h : Rf g lv fv l F m w) (hb : Below w.heap.size w w') : Rf g lv fv l F m w' := h.keep fun j _ hj => hb.block j hj
theorem run_apS2 (w : World) (base n ty : Nat) (v : Value) (l : List ByteArray) (s : ByteArray) (hown : w.ownsRow base 9 1 v n (sk l).toList) (hb : n ≤ 1048576) (hbase : base ≤ w.heap.size) :
    ∃ v' w', (apS ty #[v, .slice (some ⟨w.heap.size, 0, none⟩) 1 1]).run Try.prog (w.alloc (.cells #[.string s] 9)) = .ok v' w' ∧ w'.ownsRow base 9 1 v' (n + 1) (sk (l ++ [s])).toList ∧ (w.alloc (.cells #[.string s] 9)).grownBy w' v.ownBlock ∧ (v'.ownBlock = v.ownBlock ∨ v'.ownBlock = some (w.heap.size + 1)) := by
  obtain ⟨i0, hi0, hz0, hz1, hz2⟩ := info_parts info9
  obtain ⟨v', w', hr, ho, hg, _, hat⟩ := run_append_own_at (P := Try.prog) (w.alloc (.cells #[.string s] 9)) base 22 ty 9 i0 _ 1 16 Try.underlying22 hi0 hz0 hz1 hz2 rfl (by omega) v n _ (hown.alloc _) ⟨w.heap.size, 0, none⟩ 1 1 [.string s] rfl
    (World.news_of_block (cs := #[.string s]) (t := 9) (fr := (0, 0)) (heap_alloc_new w _)) (fun u hu => by simp at hu; subst hu; rfl) (by unfold maxLen; omega) (by omega) (by simp; omega)
  refine ⟨v', w', hr, by rw [sk_snoc]; exact ho, hg, ?_⟩
  rcases hat with hat | hat
  · exact .inl hat
  · exact .inr (by rw [hat]; simp)
/-- A text more. -/
theorem Rf.addL {g : Nat} {lv : Value} {fv : Nat → Value} {l : List ByteArray} {F : Nat → List Nat} {m : Nat} {w : World} (h : Rf g lv fv l F m w) (s : ByteArray) (hb : l.length ≤ 1048576) :
    ∃ v' w', (apS 22 #[lv, .slice (some ⟨w.heap.size, 0, none⟩) 1 1]).run Try.prog (w.alloc (.cells #[.string s] 9)) = .ok v' w' ∧ w'.cell? ⟨g, 0, none⟩ = some lv ∧ w'.frozen? ⟨g, 0, none⟩ = false ∧ Rf g v' fv (l ++ [s]) F m (w'.setCell ⟨g, 0, none⟩ v') ∧ ∀ B, B ≤ g → Below B w (w'.setCell ⟨g, 0, none⟩ v') := by
  have gz := h.gz
  obtain ⟨v', w', r, ho, hg, hat⟩ := run_apS2 w (g + 1) l.length 22 lv l s h.ol hb gz
  have old : ∀ j, j < w.heap.size → ¬ lv.ownBlock = some j → w'.heap[j]? = w.heap[j]? := fun j hj hn => grown_old hg j hj hn
  have nlg : ¬ lv.ownBlock = some g := fun e => by have := (h.ol.lt g e).1; omega
  have rg : w'.heap[g]? = _ := (old g gz nlg).trans h.row
  have o : ∀ j, j ≠ g → (w'.setCell ⟨g, 0, none⟩ v').heap[j]? = w'.heap[j]? := fun j hj => heap_setCell_other _ _ _ _ hj
  have z : w.heap.size ≤ w'.heap.size := by have := hg.size; simp at this; omega
  refine ⟨v', w', r, (cell_of_row w' g 0 _ _ _ rg).trans (rfC_0 _ _ _), frozen_of_row w' _ _ _ _ rg, ⟨?_, ?_, fun c hc => ?_, fun c hc k hk => ?_, h.sf⟩, fun B hB => ⟨by show w'.os = _; rw [hg.os]; rfl, by show w'.tape = _; rw [hg.tape]; rfl, by show w'.output = _; rw [hg.output]; rfl, by simpa [World.setCell] using z, fun j hj => (o j (by omega)).trans (old j (by omega) fun e => by have := (h.ol.lt j e).1; omega)⟩⟩
  · rw [heap_setCell_same _ _ _ _ _ _ rg, rfC_s0]
  · rw [List.length_append, List.length_singleton]
    exact own_keep2 ho fun k hk => o k (by have := (ho.lt k hk).1; omega)
  · exact own_keep2 (h.of c hc) fun k hk => (o k (by have := ((h.of c hc).lt k hk).1; omega)).trans (old k ((h.of c hc).lt k hk).2 fun e => h.sl c hc k e hk)
  · rcases hat with e | e
    · rw [e] at hk; exact h.sl c hc k hk
    · rw [e] at hk
      cases hk
      intro e2
      have := ((h.of c hc).lt _ e2).2
      omega
def apN (ty : Nat) (vs : Array Value) : Sem Value := Builtin.append_ #[81, 81] ty vs
theorem toApN (ty : Nat) (vs : Array Value) : Builtin.append_ #[81, 81] ty vs = apN ty vs := rfl
/-- A number more. -/
theorem Rf.addF {g : Nat} {lv : Value} {fv : Nat → Value} {l : List ByteArray} {F : Nat → List Nat} {m : Nat} {w : World} (h : Rf g lv fv l F m w) (c : Nat) (hc : c < 256) (x : Nat) (hb : (F c).length ≤ 1048576) :
    ∃ v' w', (apN 81 #[fv c, .slice (some ⟨w.heap.size, 0, none⟩) 1 1]).run Try.prog (w.alloc (.cells #[.int .i64 (x : Int)] 3)) = .ok v' w' ∧ w'.cell? ⟨g, 1 + c, none⟩ = some (fv c) ∧ w'.frozen? ⟨g, 1 + c, none⟩ = false ∧ Rf g lv (upd fv c v') l (fun d => if d = c then F c ++ [x] else F d) m (w'.setCell ⟨g, 1 + c, none⟩ v') ∧ ∀ B, B ≤ g → Below B w (w'.setCell ⟨g, 1 + c, none⟩ v') := by
  have gz := h.gz
  obtain ⟨v', w', r, ho, hg, hat⟩ := run_ap1 (T := 81) (e := 3) (k := .i64) info3 (by omega) Try.underlying81 w (g + 1) (F c).length 81 (fv c) (F c) x (h.of c hc) (by omega) gz
  have old : ∀ j, j < w.heap.size → ¬ (fv c).ownBlock = some j → w'.heap[j]? = w.heap[j]? := fun j hj hn => grown_old hg j hj hn
  have nlg : ¬ (fv c).ownBlock = some g := fun e => by have := ((h.of c hc).lt g e).1; omega
  have rg : w'.heap[g]? = _ := (old g gz nlg).trans h.row
  have o : ∀ j, j ≠ g → (w'.setCell ⟨g, 1 + c, none⟩ v').heap[j]? = w'.heap[j]? := fun j hj => heap_setCell_other _ _ _ _ hj
  have z : w.heap.size ≤ w'.heap.size := by have := hg.size; simp at this; omega
  have new : ∀ u : Value, (∀ k, u.ownBlock = some k → k < w.heap.size) → (∀ k, (fv c).ownBlock = some k → ¬ u.ownBlock = some k) → ∀ k, v'.ownBlock = some k → ¬ u.ownBlock = some k := fun u h1 h2 k hk e => by
    rcases hat with q | q
    · rw [q] at hk; exact h2 k hk e
    · rw [q] at hk
      cases hk
      have := h1 _ e
      omega
  refine ⟨v', w', r, (cell_of_row w' g _ _ _ _ rg).trans (rfC_f _ _ _ c hc), frozen_of_row w' _ _ _ _ rg, ⟨?_, ?_, fun d hd => ?_, fun d hd k hk => ?_, fun d d' hd hd' hne k hk => ?_⟩, fun B hB => ⟨by show w'.os = _; rw [hg.os]; rfl, by show w'.tape = _; rw [hg.tape]; rfl, by show w'.output = _; rw [hg.output]; rfl, by simpa [World.setCell] using z, fun j hj => (o j (by omega)).trans (old j (by omega) fun e => by have := ((h.of c hc).lt j e).1; omega)⟩⟩
  · rw [heap_setCell_same _ _ _ _ _ _ rg, rfC_sf _ _ _ _ _ hc]
  · exact own_keep2 h.ol fun k hk => (o k (by have := (h.ol.lt k hk).1; omega)).trans (old k (h.ol.lt k hk).2 (h.sl c hc k hk))
  · by_cases hdc : d = c
    · subst hdc
      simp only [upd, if_true]
      rw [List.length_append, List.length_singleton]
      exact own_keep2 ho fun k hk => o k (by have := (ho.lt k hk).1; omega)
    · simp only [upd, if_neg hdc]
      exact own_keep2 (h.of d hd) fun k hk => (o k (by have := ((h.of d hd).lt k hk).1; omega)).trans (old k ((h.of d hd).lt k hk).2 (h.sf d c hd hc hdc k hk))
  · by_cases hdc : d = c
    · subst hdc
      simp only [upd, if_true]
      intro e
      exact new lv (fun k hk => (h.ol.lt k hk).2) (fun k hk e => h.sl d hd k e hk) k e hk
    · simp only [upd, if_neg hdc]; exact h.sl d hd k hk
  · by_cases hdc : d = c
    · subst hdc
      simp only [upd, if_true] at hk
      simp only [upd, if_neg (Ne.symm hne)]
      exact new (fv d') (fun k hk => ((h.of d' hd').lt k hk).2) (h.sf d d' hd hd' hne) k hk
    · simp only [upd, if_neg hdc] at hk
      by_cases hdc2 : d' = c
      · subst hdc2
        simp only [upd, if_true]
        intro e
        exact new (fv d) (fun k hk => ((h.of d hd).lt k hk).2) (fun k hk e => h.sf d d' hd hd' hdc k e hk) k e hk
      · simp only [upd, if_neg hdc2]; exact h.sf d d' hd hd' hne k hk
end Go.Proofs.Ytceaklefdahfkab

/- SieveBegins: the document's at. -/
namespace Go.Proofs.Ytceaklefdahfkab
open Go.RowKit
/-- The numbers by first byte. -/
def fst (L : List (List Nat)) (c : Nat) : List Nat := (List.range L.length).filter fun j => (L.getD j []).getD 0 0 == c
/-- The pattern at the head, or -1. -/
def atV (L : List (List Nat)) (x : List Nat) : Int := if x ∈ L then ((L.idxOf x : Nat) : Int) else -1
theorem fst_find (L : List (List Nat)) (hn : L.Nodup) (x : List Nat) : (fst L (x.getD 0 0)).find? (fun j => L.getD j [] == x) = if x ∈ L then some (L.idxOf x) else none := by
  unfold fst
  rw [List.find?_filter]
  have e : (fun a => decide (((L.getD a []).getD 0 0 == x.getD 0 0) = true ∧ (L.getD a [] == x) = true)) = fun j => L.getD j [] == x := by
    funext j
    by_cases h : L.getD j [] = x
    · simp only [h, beq_self_eq_true, and_self, decide_true]
    · have h2 : (L.getD j [] == x) = false := beq_eq_false_iff_ne.2 h
      rw [h2]
      simp
  rw [e]
  by_cases hx : x ∈ L
  · rw [if_pos hx]
    have hi := List.idxOf_lt_length_of_mem hx
    rw [List.find?_range_eq_some]
    have hg : L.getD (L.idxOf x) [] = x := by
      have := List.getElem_idxOf hi
      simp only [List.getD, List.getElem?_eq_getElem hi, Option.getD_some]; exact this
    refine ⟨by rw [hg]; simp, List.mem_range.2 hi, fun j hj => ?_⟩
    have hj2 : j < L.length := by omega
    have hne : ¬ L.getD j [] = x := fun h => by
      have e1 : L.getD j [] = L[j] := by simp [List.getD, hj2]
      rw [e1] at h
      have := (List.getElem_inj (h₀ := hj2) (h₁ := hi) hn).1 (h.trans (List.getElem_idxOf hi).symm)
      omega
    simpa using hne
  · rw [if_neg hx, List.find?_eq_none]
    intro j hj h
    have hj2 := List.mem_range.1 hj
    have e1 : L.getD j [] = L[j] := by simp [List.getD, hj2]
    rw [beq_iff_eq, e1] at h
    exact hx (h ▸ List.getElem_mem hj2)
theorem fst_lt (L : List (List Nat)) (c j : Nat) (h : j ∈ fst L c) : j < L.length := List.mem_range.1 (List.mem_filter.1 h).1
theorem fst_len (L : List (List Nat)) (c : Nat) : (fst L c).length ≤ L.length := by
  have := List.length_filter_le (fun j => (L.getD j []).getD 0 0 == c) (List.range L.length)
  rw [List.length_range] at this
  exact this
theorem fst_snoc (L : List (List Nat)) (x : List Nat) (d : Nat) : fst (L ++ [x]) d = if d = x.getD 0 0 then fst L (x.getD 0 0) ++ [L.length] else fst L d := by
  unfold fst
  rw [List.length_append, List.length_singleton, List.range_succ, List.filter_append]
  have e1 : ∀ c, (List.range L.length).filter (fun j => ((L ++ [x]).getD j []).getD 0 0 == c) = (List.range L.length).filter fun j => (L.getD j []).getD 0 0 == c := fun c => by
    apply List.filter_congr
    intro j hj
    have := List.mem_range.1 hj
    have : (L ++ [x]).getD j [] = L.getD j [] := by simp only [List.getD, List.getElem?_append_left this]
    rw [this]
  have e2 : (L ++ [x]).getD L.length [] = x := by simp [List.getD]
  rw [e1]
  by_cases h : d = x.getD 0 0
  · rw [if_pos h]
    subst h
    simp
  · rw [if_neg h]
    simp only [List.filter_cons, e2, List.filter_nil]
    rw [if_neg (by simpa using fun h2 => h h2.symm), List.append_nil]
attribute [local go_sem ↓] toSlB
set_option maxRecDepth 100000 in
set_option maxHeartbeats 1600000 in
theorem at_any (g : Nat) (lv : Value) (fv : Nat → Value) (l : List ByteArray) (m : Nat) (hm : 0 < m) (hm1 : m ≤ 64) (hln : l.length ≤ 4096) (hnd : (l.map tl).Nodup) (p : List Nat) (hpb : Byt p) (hpl : p.length ≤ 1073741824) (hpm : m ≤ p.length) (pv : Value) (w : World) (h : Rf g lv fv l (fst (l.map tl)) m w) (hp : Si .u8 pv p w) :
    Calls Try.prog 80 #[.pointer (some ⟨g, 0, none⟩), pv] w fun e w' => e = .returned (.int .i64 (atV (l.map tl) (p.take m))) ∧ Below w.heap.size w w' := by
  obtain ⟨b, off, cap, rfl, hc1, hc2, hbz, hcp⟩ : ∃ b off cap, pv = .slice (some ⟨b, off, none⟩) p.length cap ∧ p.length ≤ cap ∧ cap ≤ maxLen ∧ b < w.heap.size ∧ ∀ j, j < p.length → w.cell? ⟨b, off + j, none⟩ = some (.int .u8 ((p.getD j 0 : Nat) : Int)) := by
    rcases hp with ⟨_, rfl⟩ | hp
    · simp at hpm; omega
    · exact hp
  have hc0 : p.getD 0 0 < 256 := getD_byt hpb 0
  have hx0 : (p.take m).getD 0 0 = p.getD 0 0 := by rw [List.getD, List.getElem?_take, if_pos hm, ← List.getD]
  have hff := fst_find (l.map tl) hnd (p.take m)
  rw [hx0] at hff
  obtain ⟨c, hc⟩ : ∃ c, c = p.getD 0 0 := ⟨_, rfl⟩
  rw [← hc] at hff hc0
  have a0 : w.cell? ⟨g, 0, none⟩ = some lv := (cell_of_row w g _ _ _ _ h.row).trans (rfC_0 _ _ _)
  have a1 : w.cell? ⟨g, 1 + c, none⟩ = some (fv c) := (cell_of_row w g _ _ _ _ h.row).trans (rfC_f _ _ _ c hc0)
  have a2 : w.cell? ⟨g, 257, none⟩ = some (.int .i64 (m : Int)) := (cell_of_row w g _ _ _ _ h.row).trans (rfC_w _ _ _)
  have p0 : w.cell? ⟨b, off, none⟩ = some (.int .u8 (c : Int)) := by rw [hc]; exact hcp 0 (by omega)
  obtain ⟨ol, cl, rfl, _, _, hlf⟩ := (own_st h.ol rfl).form
  obtain ⟨of', cf, hfv, _, _, hff2⟩ := (own_si (h.of c hc0) rfl).form
  rw [hfv] at a1
  have HFV : Hid (∀ t, t < (fst (l.map tl) c).length → ∃ b off, of' = some ⟨b, off, none⟩ ∧ b < w.heap.size ∧ w.cell? ⟨b, off + t, none⟩ = some (.int .i64 (((fst (l.map tl) c).getD t 0 : Nat) : Int))) := fun t ht => by
    obtain ⟨b, off, q1, q2, q3⟩ := hff2 (by omega)
    exact ⟨b, off, q1, q2, q3 t ht⟩
  have HLV : Hid (∀ j, j < l.length → ∃ b off, ol = some ⟨b, off, none⟩ ∧ b < w.heap.size ∧ w.cell? ⟨b, off + j, none⟩ = some (.string (txt l j))) := fun j hj => by
    obtain ⟨b, off, q1, q2, q3⟩ := hlf (by omega)
    exact ⟨b, off, q1, q2, q3 j _ (txt_get hj)⟩
  have HCV : Hid (∀ W, Below w.heap.size w W → ∀ n, (convert 23 9 (.slice (some ⟨b, off, none⟩) m cap)).run Try.prog (W.drewN n) = .ok (.string (bst (p.take m))) (W.drewN n)) := fun W hW n => by
    have := conv_sub p b off cap 0 m hc1 hc2 (by omega) (W.drewN n) (by have := hW.size; show b < W.heap.size; omega) (fun j hj => (World.cell?_of_block (w := w) (hW.block b hbz)).trans (hcp j hj))
    simpa using this
  have ct := run_cutH b off p.length cap m (by omega)
  have HFL : Hid ((fst (l.map tl) c).length ≤ 4096) := by have := fst_len (l.map tl) c; rw [List.length_map] at this; exact Nat.le_trans this hln
  have HFM : Hid (∀ t, t < (fst (l.map tl) c).length → (fst (l.map tl) c).getD t 0 < l.length) := fun t ht => by
    have := fst_lt (l.map tl) c _ (getD_mem ht)
    simpa using this
  have HFF : Hid _ := hff
  have HTB : Hid (Byt (p.take m)) := fun x hx => hpb x (List.mem_of_mem_take hx)
  have HRW : Hid (w.heap[g]? = some (.cells (rfC (.slice ol l.length cl) fv m) 108 (0, 0))) := h.row
  have gz := h.gz
  clear hff hff2 hlf hfv hcp h hp hx0 hc
  generalize hFl : fst (l.map tl) c = FL at *
  have hm0 : ¬ ((m : Int) = 0) := by omega
  have hmb : ((m : Int) == 0) = false := by simp; omega
  have hpm' : ¬ ((p.length : Int) < (m : Int)) := by omega
  have hpmd : decide (p.length < m) = false := decide_eq_false (by omega)
  have hp1 : (0 : Int) < (p.length : Int) := by omega
  have hc00 : (0 : Int) ≤ (c : Int) := by omega
  have hc01 : (c : Int) < 256 := by omega
  go_enter Try.func80, Try.ntmps80
  go_wp2_with fail
  go_quiet (fail)
  go_wp2_with fail
  go_loopw [6] (fun iv wr => ∃ t : Nat, iv = .int .i64 (t : Int) ∧ t ≤ FL.length ∧ Hid ((FL.take t).find? (fun j => (l.map tl).getD j [] == p.take m) = none) ∧ Hid (Below w.heap.size w wr)) (fun iv _ => FL.length - (intOf iv).toNat)
  case atStart => exact ⟨0, rfl, by omega, rfl, Below.drewN' (Below.refl _ _) nq⟩
  case round =>
    obtain ⟨t, rfl, ht, HN, HB⟩ := hrel
    by_cases hlt : t < FL.length
    · have ht0 : (0 : Int) ≤ (t : Int) := by omega
      have ht1 : (t : Int) < (FL.length : Int) := by omega
      have hj := HFM.out t hlt
      obtain ⟨bf, offf, rfl, hbf, hcf⟩ := HFV.out t hlt
      have hgd : FL.getD t 0 = FL[t] := by simp [List.getD, hlt]
      have hsnoc := take_snoc hlt
      obtain ⟨j, hj0⟩ : ∃ j, j = FL.getD t 0 := ⟨_, rfl⟩
      rw [← hj0] at hj hcf hgd hsnoc
      obtain ⟨bl, offl, rfl, hbl, hcl⟩ := HLV.out j hj
      have hg : g < w.heap.size := by omega
      have k0 : wr.cell? ⟨g, 0, none⟩ = some (.slice (some ⟨bl, offl, none⟩) l.length cl) := (World.cell?_of_block (w := w) (HB.out.block g hg)).trans a0
      have k2 : wr.cell? ⟨g, 257, none⟩ = some (.int .i64 (m : Int)) := (World.cell?_of_block (w := w) (HB.out.block g hg)).trans a2
      have kf : wr.cell? ⟨bf, offf + t, none⟩ = some (.int .i64 (j : Int)) := (World.cell?_of_block (w := w) (HB.out.block bf hbf)).trans hcf
      have kl : wr.cell? ⟨bl, offl + j, none⟩ = some (.string (txt l j)) := (World.cell?_of_block (w := w) (HB.out.block bl hbl)).trans hcl
      have cv := HCV.out wr HB.out
      have hjz : (0 : Int) ≤ (j : Int) := by omega
      have hjl : (j : Int) < (l.length : Int) := by omega
      have hLj : (l.map tl).getD j [] = tl (txt l j) := by rw [txt_eq hj]; simp [List.getD, hj]
      by_cases hab : bst (p.take m) = txt l j
      · have HE : Hid (atV (l.map tl) (p.take m) = (j : Int)) := by
          show _ = _
          have hq : ((l.map tl).getD j [] == p.take m) = true := by rw [hLj, ← hab, tl_bst _ HTB.out]; simp
          have hfind : FL.find? (fun j => (l.map tl).getD j [] == p.take m) = some j := by
            have e2 : FL = FL.take (t + 1) ++ FL.drop (t + 1) := (List.take_append_drop _ _).symm
            rw [e2, List.find?_append, hsnoc, List.find?_append, HN.out]
            simp only [List.find?_cons, hq, Option.none_or, Option.some_or]
          rw [HFF.out] at hfind
          by_cases hx : p.take m ∈ l.map tl
          · rw [if_pos hx] at hfind
            rw [atV, if_pos hx, Option.some.inj hfind]
          · rw [if_neg hx] at hfind; cases hfind
        rw [← hab] at kl
        clear hLj hsnoc hgd hcf hcl hj0 HN HFM HFV HLV HFF hab hFl
        generalize bst (p.take m) = tx at *
        go_wp2_with fail
        go_quiet (fail)
        go_wp2
        go_ret
        exact ⟨by rw [HE.out]; rfl, Below.drewN' HB.out _⟩
      · have HN2 : Hid ((FL.take (t + 1)).find? (fun j => (l.map tl).getD j [] == p.take m) = none) := by
          show _ = _
          have hq : ((l.map tl).getD j [] == p.take m) = false := by
            rw [hLj, beq_eq_false_iff_ne]
            exact fun h => hab (tl_inj (by rw [tl_bst _ HTB.out, h]))
          rw [hsnoc, List.find?_append, HN.out]
          simp only [List.find?_cons, hq, List.find?_nil, Option.none_or]
        have hab' := str_off hab
        clear hLj hsnoc hgd hcf hcl hj0 HN hab
        generalize bst (p.take m) = tx at *
        generalize txt l j = tj at *
        go_wp2_with fail
        go_quiet (fail)
        go_wp2
        exact ⟨⟨t + 1, by rfl, by omega, HN2, Below.drewN' HB.out _⟩, by simp only [intOf]; omega⟩
    · have ht1 : ¬ ((t : Int) < (FL.length : Int)) := by omega
      have HE : Hid (atV (l.map tl) (p.take m) = -1) := by
        show _ = _
        have := HN.out
        rw [List.take_of_length_le (show FL.length ≤ t by omega), HFF.out] at this
        by_cases hx : p.take m ∈ l.map tl
        · rw [if_pos hx] at this; cases this
        · rw [atV, if_neg hx]
      go_wp2
      go_ret
      exact ⟨by rw [HE.out]; rfl, HB.out⟩
end Go.Proofs.Ytceaklefdahfkab

/- SieveBegins: the document's New. -/
namespace Go.Proofs.Ytceaklefdahfkab
open Go.RowKit
theorem conv_sb (w : World) (s : ByteArray) (hs : s.size ≤ 1073741824) : ∃ v w', (convert 9 23 (.string s)).run Try.prog w = .ok v w' ∧ Si .u8 v (tl s) w' ∧ Below w.heap.size w w' := by
  refine ⟨_, _, Lib.run_convert_string_bytes (P := Try.prog) w 9 23 5 s Try.underlying9 Try.underlying23 Try.underlying5, ?_, ?_⟩
  · refine .inr ⟨w.heap.size, 0, _, by rw [tl_len], by rw [tl_len]; exact grownCap_ge _ _ _ _, grownCap_le_maxLen _ _ _ _ (by unfold maxLen; omega), by rw [Lib.bytesWorld_size]; omega, fun j hj => ?_⟩
    rw [tl_len] at hj
    rw [Nat.zero_add, Lib.bytesWorld_cell w 5 s j hj]
    have : (tl s).getD j 0 = (s.data.toList.getD j 0).toNat := by
      unfold tl
      have h2 : j < s.data.size := hj
      simp only [List.getD, List.getElem?_map, Array.getElem?_toList, Array.getElem?_eq_getElem h2]
      rfl
    rw [this]
  · exact ⟨rfl, rfl, rfl, by rw [Lib.bytesWorld_size]; omega, fun k hk => Lib.bytesWorld_at_old w 5 s k hk⟩
/-- What the document's New hands out. -/
def RNew (l : List ByteArray) (w : World) (e : Ending) (w' : World) : Prop :=
  (4096 < l.length ∧ e = .returned (.tuple #[.pointer none, .int .i64 1])) ∨
  (l.length ≤ 4096 ∧ (wdO l).2 = false ∧ e = .returned (.tuple #[.pointer none, .int .i64 50])) ∨
  (l.length ≤ 4096 ∧ (wdO l).2 = true ∧ ¬ (l.map tl).Nodup ∧ e = .returned (.tuple #[.pointer none, .int .i64 51])) ∨
  (l.length ≤ 4096 ∧ (wdO l).2 = true ∧ (l.map tl).Nodup ∧ ∃ g, e = .returned (.tuple #[.pointer (some ⟨g, 0, none⟩), .int .i64 0]) ∧ w.heap.size ≤ g ∧ ∃ lv fv, Rf g lv fv l (fst (l.map tl)) (wdO l).1 w')
theorem wdO_bad {l : List ByteArray} {i : Nat} (hi : i < l.length) (h : (txt l i).size = 0 ∨ 64 < (txt l i).size ∨ (txt l i).size ≠ (txt l 0).size) : (wdO l).2 = false := by
  cases l with
  | nil => simp at hi
  | cons s r =>
    cases hq : (wdO (s :: r)).2 with
    | false => rfl
    | true =>
      exfalso
      have h2 : (decide (0 < s.size) && (decide (s.size ≤ 64) && allW s.size (s :: r))) = true := hq
      simp only [Bool.and_eq_true, decide_eq_true_iff] at h2
      have h3 : (txt (s :: r) i).size = s.size := by
        have := List.all_eq_true.1 h2.2.2 _ (List.mem_of_getElem? (txt_get hi))
        simpa using this
      have h4 : txt (s :: r) 0 = s := rfl
      rw [h3, h4] at h
      omega
theorem wdO_good {l : List ByteArray} (h : ∀ i, i < l.length → 0 < (txt l i).size ∧ (txt l i).size ≤ 64 ∧ (txt l i).size = (txt l 0).size) : (wdO l).2 = true ∧ (wdO l).1 = if l.length = 0 then 0 else (txt l 0).size := by
  cases l with
  | nil => exact ⟨rfl, rfl⟩
  | cons s r =>
    have h0 := h 0 (by simp)
    have h4 : txt (s :: r) 0 = s := rfl
    rw [h4] at h0
    refine ⟨?_, by rw [if_neg (by simp), h4]; rfl⟩
    show (decide (0 < s.size) && (decide (s.size ≤ 64) && allW s.size (s :: r))) = true
    rw [decide_eq_true h0.1, decide_eq_true h0.2.1]
    simp only [Bool.true_and]
    unfold allW
    rw [List.all_eq_true]
    intro t ht
    obtain ⟨i, hi, rfl⟩ := List.mem_iff_getElem.1 ht
    have := (h i hi).2.2
    rw [txt_eq hi, h4] at this
    simpa using this
attribute [local go_sem ↓] toApS toApN toIxS
set_option maxRecDepth 100000 in
set_option maxHeartbeats 3200000 in
theorem newR_any (l : List ByteArray) (hl : l.length ≤ 1073741824) (hz : ∀ s ∈ l, s.size ≤ 1073741824) (v : Value) (w : World) (hv : St v l w) :
    Calls Try.prog 61 #[v] w fun e w' => RNew l w e w' ∧ Below w.heap.size w w' := by
  obtain ⟨o, c, rfl, _, _, hf⟩ := hv.form
  have HF : Hid (∀ j, j < l.length → ∃ b off, o = some ⟨b, off, none⟩ ∧ b < w.heap.size ∧ w.cell? ⟨b, off + j, none⟩ = some (.string (txt l j))) := fun j hj => by
    obtain ⟨b, off, q1, q2, q3⟩ := hf (by omega)
    exact ⟨b, off, q1, q2, q3 j _ (txt_get hj)⟩
  have HZ : Hid (∀ j, j < l.length → (txt l j).size ≤ 1073741824) := fun j hj => hz _ (List.mem_of_getElem? (txt_get hj))
  clear hv hf hz
  by_cases h1 : 4096 < l.length
  · have h1' : (4096 : Int) < (l.length : Int) := by omega
    go_enter Try.func61, Try.ntmps61
    go_wp2
    go_ret2
    exact ⟨.inl ⟨h1, rfl⟩, Below.refl _ _⟩
  have h1' : ¬ ((4096 : Int) < (l.length : Int)) := by omega
  have h1n : l.length ≤ 4096 := by omega
  obtain ⟨W1, hW1⟩ : ∃ W1, w.alloc (.cells Try.zeroCells108 108) = W1 := ⟨_, rfl⟩
  have HR1 : Hid (W1.heap[w.heap.size]? = some (.cells (rfC (.slice none 0 0) (fun _ => .slice none 0 0) 0) 108 (0, 0))) := by
    show _ = _
    rw [← hW1, ← zero95]; exact heap_alloc_new _ _
  have HB1 : Hid (Below w.heap.size w W1) := by rw [← hW1]; exact (Below.refl _ w).alloc (Nat.le_refl _) _
  obtain ⟨g, hg⟩ : ∃ g, g = w.heap.size := ⟨_, rfl⟩
  have HG : Hid (g = w.heap.size) := hg
  rw [← hg] at HR1 HB1 ⊢
  go_enter Try.func61, Try.ntmps61
  go_wp2_with fail
  rw [← hg]
  clear hW1 hg
  go_loopw [5] (fun iv wr => ∃ i : Nat, iv = .int .i64 (i : Int) ∧ i ≤ l.length ∧ Hid (∀ j, j < i → 0 < (txt l j).size ∧ (txt l j).size ≤ 64 ∧ (txt l j).size = (txt l 0).size) ∧ Hid (wr.heap[g]? = some (.cells (rfC (.slice none 0 0) (fun _ => .slice none 0 0) (if i = 0 then 0 else (txt l 0).size)) 108 (0, 0))) ∧ Hid (Below g w wr)) (fun iv _ => l.length - (intOf iv).toNat)
  case atStart => exact ⟨0, rfl, by omega, fun j hj => by omega, HR1, HB1⟩
  case round =>
    clear HR1 HB1
    obtain ⟨i, rfl, hi, HGD, HR, HB⟩ := hrel
    by_cases hlt : i < l.length
    · have hi0 : (0 : Int) ≤ (i : Int) := by omega
      have hi1 : (i : Int) < (l.length : Int) := by omega
      obtain ⟨b, off, rfl, hb, hcs⟩ := HF.out i hlt
      have kp : wr.cell? ⟨b, off + i, none⟩ = some (.string (txt l i)) := (World.cell?_of_block (w := w) (HB.out.block b (by rw [HG.out]; exact hb))).trans hcs
      have hsz := HZ.out i hlt
      have HBAD : Hid ((txt l i).size = 0 ∨ 64 < (txt l i).size ∨ (txt l i).size ≠ (txt l 0).size → (wdO l).2 = false) := fun h => wdO_bad hlt h
      clear hcs
      rcases Nat.eq_zero_or_pos i with hi00 | hi00
      · subst hi00
        rw [if_pos rfl] at HR
        have cw : wr.cell? ⟨g, 257, none⟩ = some (.int .i64 0) := (cell_of_row wr g _ _ _ _ HR.out).trans (rfC_w _ _ _)
        have fw : wr.frozen? ⟨g, 257, none⟩ = false := frozen_of_row wr _ _ _ _ HR.out
        obtain ⟨W2, hW2⟩ : ∃ W2, wr.setCell ⟨g, 257, none⟩ (.int .i64 ((txt l 0).size : Int)) = W2 := ⟨_, rfl⟩
        have HR2 : Hid (W2.heap[g]? = some (.cells (rfC (.slice none 0 0) (fun _ => .slice none 0 0) (txt l 0).size) 108 (0, 0))) := by
          show _ = _
          rw [← hW2, ← rfC_sw _ _ 0]; exact heap_setCell_same _ _ _ _ _ _ HR.out
        have HB2 : Hid (Below g w W2) := by rw [← hW2]; exact HB.out.setCell (Nat.le_refl _) _
        have HBW : Hid (Below w.heap.size w W2) := by rw [← HG.out]; exact HB2.out
        have c2 : W2.cell? ⟨g, 257, none⟩ = some (.int .i64 ((txt l 0).size : Int)) := (cell_of_row W2 g _ _ _ _ HR2.out).trans (rfC_w _ _ _)
        simp only [Nat.add_zero] at kp
        by_cases b1 : (txt l 0).size = 0
        · have HW : Hid ((wdO l).2 = false) := HBAD.out (.inl b1)
          have b1' : (((txt l 0).size : Int) == 0) = true := beq_iff_eq.2 (by omega)
          clear HBAD HGD HR HB b1
          generalize txt l 0 = s0 at *
          go_wp2
          go_ret2
          exact ⟨.inr (.inl ⟨h1n, HW.out, rfl⟩), by rw [HG.out]; exact HBW.out⟩
        · have b1' : ((((txt l 0).size : Nat) : Int) == 0) = false := beq_eq_false_iff_ne.2 (by omega)
          have b1n : ¬ (((txt l 0).size : Int) = 0) := by omega
          by_cases b2 : 64 < (txt l 0).size
          · have HW : Hid ((wdO l).2 = false) := HBAD.out (.inr (.inl b2))
            have b2' : (64 : Int) < ((txt l 0).size : Int) := by omega
            clear HBAD HGD HR HB
            generalize txt l 0 = s0 at *
            go_wp2
            go_ret2
            exact ⟨.inr (.inl ⟨h1n, HW.out, rfl⟩), by rw [HG.out]; exact HBW.out⟩
          · have b2' : ¬ ((64 : Int) < ((txt l 0).size : Int)) := by omega
            have HGD2 : Hid (∀ j, j < 0 + 1 → 0 < (txt l j).size ∧ (txt l j).size ≤ 64 ∧ (txt l j).size = (txt l 0).size) := fun j hj => by
              have : j = 0 := by omega
              subst this
              exact ⟨by omega, by omega, rfl⟩
            have HR3 : Hid (W2.heap[g]? = some (.cells (rfC (.slice none 0 0) (fun _ => .slice none 0 0) (if 0 + 1 = 0 then 0 else (txt l 0).size)) 108 (0, 0))) := by rw [if_neg (by omega)]; exact HR2.out
            clear HBAD HGD HR HB HR2 HBW
            obtain ⟨n, hn⟩ : ∃ n, n = (txt l 0).size := ⟨_, rfl⟩
            go_wp2
            exact ⟨⟨1, by rfl, by omega, HGD2, HR3, HB2⟩, by simp only [intOf]; omega⟩
      · rw [if_neg (by omega)] at HR
        have hib : ((i : Int) == 0) = false := by simp; omega
        have hin : ¬ ((i : Int) = 0) := by omega
        have cw : wr.cell? ⟨g, 257, none⟩ = some (.int .i64 ((txt l 0).size : Int)) := (cell_of_row wr g _ _ _ _ HR.out).trans (rfC_w _ _ _)
        have HBW : Hid (Below w.heap.size w wr) := by rw [← HG.out]; exact HB.out
        by_cases b1 : (txt l i).size = 0
        · have HW : Hid ((wdO l).2 = false) := HBAD.out (.inl b1)
          have b1' : (((txt l i).size : Int) == 0) = true := beq_iff_eq.2 (by omega)
          clear HBAD HGD HR HB b1
          generalize txt l i = s0 at *
          go_wp2
          go_ret2
          exact ⟨.inr (.inl ⟨h1n, HW.out, rfl⟩), by rw [HG.out]; exact HBW.out⟩
        · have b1' : ((((txt l i).size : Nat) : Int) == 0) = false := beq_eq_false_iff_ne.2 (by omega)
          have b1n : ¬ (((txt l i).size : Int) = 0) := by omega
          by_cases b2 : 64 < (txt l i).size
          · have HW : Hid ((wdO l).2 = false) := HBAD.out (.inr (.inl b2))
            have b2' : (64 : Int) < ((txt l i).size : Int) := by omega
            clear HBAD HGD HR HB
            generalize txt l i = s0 at *
            go_wp2
            go_ret2
            exact ⟨.inr (.inl ⟨h1n, HW.out, rfl⟩), by rw [HG.out]; exact HBW.out⟩
          · have b2' : ¬ ((64 : Int) < ((txt l i).size : Int)) := by omega
            by_cases b3 : (txt l i).size = (txt l 0).size
            · have b3' : ((txt l i).size : Int) = ((txt l 0).size : Int) := by omega
              have HGD2 : Hid (∀ j, j < i + 1 → 0 < (txt l j).size ∧ (txt l j).size ≤ 64 ∧ (txt l j).size = (txt l 0).size) := fun j hj => by
                by_cases hji : j = i
                · subst hji; exact ⟨by omega, by omega, b3⟩
                · exact HGD.out j (by omega)
              have HR3 : Hid (wr.heap[g]? = some (.cells (rfC (.slice none 0 0) (fun _ => .slice none 0 0) (if i + 1 = 0 then 0 else (txt l 0).size)) 108 (0, 0))) := by rw [if_neg (by omega)]; exact HR.out
              rw [← b3] at cw
              clear HBAD HGD HR HBW b3 b3'
              generalize hs1 : (txt l i) = s1 at kp cw b1 b1' b1n b2 b2'
              clear hs1
              go_wp2
              exact ⟨⟨i + 1, by rfl, by omega, HGD2, HR3, HB⟩, by simp only [intOf]; omega⟩
            · have HW : Hid ((wdO l).2 = false) := HBAD.out (.inr (.inr b3))
              have b3' : ¬ (((txt l i).size : Int) = ((txt l 0).size : Int)) := by omega
              clear HBAD HGD HR HB
              generalize txt l i = s0 at *
              generalize (txt l 0).size = n0 at *
              go_wp2
              go_ret2
              exact ⟨.inr (.inl ⟨h1n, HW.out, rfl⟩), by rw [HG.out]; exact HBW.out⟩
    · have hi1 : ¬ ((i : Int) < (l.length : Int)) := by omega
      have hie : i = l.length := by omega
      subst hie
      obtain ⟨hw2, hw1⟩ := wdO_good HGD.out
      rw [← hw1] at HR
      have HW2 : Hid ((wdO l).2 = true) := hw2
      obtain ⟨m, hm⟩ : ∃ m, m = (wdO l).1 := ⟨_, rfl⟩
      rw [← hm] at HR
      have HM : Hid (m = (wdO l).1) := hm
      have HSZ : Hid (∀ j, j < l.length → (txt l j).size = m ∧ 0 < m ∧ m ≤ 64) := fun j hj => by
        have h := HGD.out j hj
        rw [if_neg (by omega)] at hw1
        rw [hm, hw1]
        omega
      have R0 : Rf g (.slice none 0 0) (fun _ => .slice none 0 0) (l.take 0) (fst ((l.take 0).map tl)) m wr := by
        refine ⟨HR.out, World.ownsRow_nil _ _ _ _, fun c _ => ?_, (fun c _ k hk => by cases hk), (fun c d _ _ _ k hk => by cases hk)⟩
        have : fst ((l.take 0).map tl) c = [] := by simp [fst]
        rw [this]
        exact World.ownsRow_nil _ _ _ _
      have HR0 : Hid _ := R0
      clear R0 HR HGD hw2 hw1 hm
      go_wp2_with fail
      go_loopw [7] (fun iv wr => ∃ (i : Nat) (lv : Value) (fv : Nat → Value), iv = .int .i64 (i : Int) ∧ i ≤ l.length ∧ Hid (Rf g lv fv (l.take i) (fst ((l.take i).map tl)) m wr) ∧ Hid (((l.take i).map tl).Nodup) ∧ Hid (Below g w wr)) (fun iv _ => l.length - (intOf iv).toNat)
      case atStart => exact ⟨0, _, _, rfl, by omega, HR0, List.nodup_nil, HB⟩
      case round =>
        clear HR0 HB
        obtain ⟨i, lv, fv, rfl, hi, HRF, HND, HB⟩ := hrel
        by_cases hlt : i < l.length
        · have hi0 : (0 : Int) ≤ (i : Int) := by omega
          have hi1 : (i : Int) < (l.length : Int) := by omega
          obtain ⟨b, off, rfl, hb, hcs⟩ := HF.out i hlt
          have kp : wr.cell? ⟨b, off + i, none⟩ = some (.string (txt l i)) := (World.cell?_of_block (w := w) (HB.out.block b (by rw [HG.out]; exact hb))).trans hcs
          obtain ⟨hsz, hm0, hm64⟩ := HSZ.out i hlt
          obtain ⟨pv, Wc, rcv, hpv, hbc⟩ := conv_sb wr (txt l i) (by omega)
          have htk : (tl (txt l i)).take m = tl (txt l i) := List.take_of_length_le (by rw [tl_len]; omega)
          have hlen : (l.take i).length = i := by rw [List.length_take]; omega
          have hBg : g < wr.heap.size := HRF.out.gz
          have CA : Hid (Calls Try.prog 80 #[.pointer (some ⟨g, 0, none⟩), pv] Wc fun e w' => e = .returned (.int .i64 (atV ((l.take i).map tl) (tl (txt l i)))) ∧ Hid (Rf g lv fv (l.take i) (fst ((l.take i).map tl)) m w') ∧ Hid (Below g w w')) := by
            have := at_any g lv fv (l.take i) m hm0 hm64 (by omega) HND.out (tl (txt l i)) (tl_byt _) (by rw [tl_len]; omega) (by rw [tl_len]; omega) pv Wc (HRF.out.below hbc) hpv
            rw [htk] at this
            refine this.mono fun e w' ⟨h1, h2⟩ => ⟨h1, (HRF.out.below hbc).below h2, ?_⟩
            have hbw : Below g w Wc := HB.out.trans (hbc.mono (by omega))
            exact hbw.trans (h2.mono (by have := hbc.size; omega))
          have hsn : l.take (i + 1) = l.take i ++ [txt l i] := by
            rw [List.take_succ_eq_append_getElem hlt, txt_eq hlt]
          have hmp : (l.take (i + 1)).map tl = (l.take i).map tl ++ [tl (txt l i)] := by rw [hsn, List.map_append]; rfl
          by_cases hin : tl (txt l i) ∈ (l.take i).map tl
          · have hk : atV ((l.take i).map tl) (tl (txt l i)) = ((((l.take i).map tl).idxOf (tl (txt l i)) : Nat) : Int) := by rw [atV, if_pos hin]
            rw [hk] at CA
            have HNN : Hid (¬ (l.map tl).Nodup) := fun hnd => by
              have h2 : (l.map tl) = (l.take (i + 1)).map tl ++ (l.drop (i + 1)).map tl := by rw [← List.map_append, List.take_append_drop]
              rw [h2, hmp, List.append_assoc] at hnd
              have h3 := (List.nodup_append.1 hnd).2.2 _ hin (tl (txt l i)) (by simp)
              exact h3 rfl
            generalize ((l.take i).map tl).idxOf (tl (txt l i)) = kk at CA
            have hk0 : (0 : Int) ≤ (kk : Int) := by omega
            clear hk hin hcs hpv hbc HRF HND HB htk
            generalize txt l i = s1 at kp rcv
            go_wp2_with fail
            refine Calls.mono CA.out ?_
            rintro e Wd ⟨rfl, HRd, HBd⟩
            go_wp2
            go_ret2
            exact ⟨.inr (.inr (.inl ⟨h1n, HW2.out, HNN.out, rfl⟩)), by rw [HG.out] at HBd; rw [HG.out]; exact HBd.out⟩
          · have hk : atV ((l.take i).map tl) (tl (txt l i)) = -1 := by rw [atV, if_neg hin]
            rw [hk] at CA
            have HND2 : Hid (((l.take (i + 1)).map tl).Nodup) := by
              show List.Nodup _
              rw [hmp]
              refine List.nodup_append.2 ⟨HND.out, by simp, fun a ha b hb => ?_⟩
              rw [List.mem_singleton.1 hb]
              exact fun e => hin (e ▸ ha)
            have c256 : (tl (txt l i)).getD 0 0 < 256 := getD_byt (tl_byt _) 0
            have hix : ∀ W : World, (ixS (.string (txt l i)) (.int .i64 0)).run Try.prog W = .ok (.int .u8 (((tl (txt l i)).getD 0 0 : Nat) : Int)) W := fun W => run_ixS (txt l i) 0 (by omega) W
            obtain ⟨cc, hcc⟩ : ∃ cc, cc = (tl (txt l i)).getD 0 0 := ⟨_, rfl⟩
            rw [← hcc] at c256 hix
            have ADD : Hid (∀ Wd, Rf g lv fv (l.take i) (fst ((l.take i).map tl)) m Wd → Below g w Wd → ∃ (o' : Option Addr) (n' c' : Nat) (w' : World), Wd.cell? ⟨g, 0, none⟩ = some lv ∧ (apS 22 #[lv, .slice (some ⟨Wd.heap.size, 0, none⟩) 1 1]).run Try.prog (Wd.alloc (.cells #[.string (txt l i)] 9)) = .ok (.slice o' n' c') w' ∧ w'.cell? ⟨g, 0, none⟩ = some lv ∧ w'.frozen? ⟨g, 0, none⟩ = false ∧ Hid (Rf g (.slice o' n' c') fv (l.take (i + 1)) (fst ((l.take i).map tl)) m (w'.setCell ⟨g, 0, none⟩ (.slice o' n' c')) ∧ Below g w (w'.setCell ⟨g, 0, none⟩ (.slice o' n' c')))) := fun Wd h hb => by
              obtain ⟨v', w', r, q1, q2, q3, q4⟩ := h.addL (txt l i) (by omega)
              obtain ⟨o', c', rfl⟩ := own_size q3.ol
              exact ⟨o', _, c', w', (cell_of_row Wd g _ _ _ _ h.row).trans (rfC_0 _ _ _), r, q1, q2, by rw [hsn]; exact q3, hb.trans (q4 g (Nat.le_refl _))⟩
            have ADF : Hid (∀ (lv : Value) (D : World), Rf g lv fv (l.take (i + 1)) (fst ((l.take i).map tl)) m D → Below g w D → ∃ (o' : Option Addr) (n' c' : Nat) (w' : World), D.cell? ⟨g, 1 + cc, none⟩ = some (fv cc) ∧ (D.alloc (.cells #[.int .i64 (i : Int)] 3)).cell? ⟨g, 1 + cc, none⟩ = some (fv cc) ∧ (apN 81 #[fv cc, .slice (some ⟨D.heap.size, 0, none⟩) 1 1]).run Try.prog (D.alloc (.cells #[.int .i64 (i : Int)] 3)) = .ok (.slice o' n' c') w' ∧ w'.cell? ⟨g, 1 + cc, none⟩ = some (fv cc) ∧ w'.frozen? ⟨g, 1 + cc, none⟩ = false ∧ Hid (Rf g lv (upd fv cc (.slice o' n' c')) (l.take (i + 1)) (fst ((l.take (i + 1)).map tl)) m (w'.setCell ⟨g, 1 + cc, none⟩ (.slice o' n' c')) ∧ Below g w (w'.setCell ⟨g, 1 + cc, none⟩ (.slice o' n' c')))) := fun lv D h hb => by
              have hfl := fst_len ((l.take i).map tl) cc
              rw [List.length_map, hlen] at hfl
              obtain ⟨v', w', r, q1, q2, q3, q4⟩ := h.addF cc c256 i (by omega)
              have e1 : (fun d => if d = cc then fst ((l.take i).map tl) cc ++ [i] else fst ((l.take i).map tl) d) = fst ((l.take (i + 1)).map tl) := by
                funext d
                rw [hmp, fst_snoc, ← hcc, List.length_map, hlen]
              rw [e1] at q3
              obtain ⟨o', c', hv'⟩ := own_size (q3.of cc c256)
              simp only [upd, if_true] at hv'
              subst hv'
              have k1 : D.cell? ⟨g, 1 + cc, none⟩ = some (fv cc) := (cell_of_row D g _ _ _ _ h.row).trans (rfC_f _ _ _ cc c256)
              exact ⟨o', _, c', w', k1, (World.cell?_of_block (w := D) (heap_alloc_old D _ (show g < D.heap.size from h.gz))).trans k1, r, q1, q2, q3, hb.trans (q4 g (Nat.le_refl _))⟩
            have hc0 : (0 : Int) ≤ (cc : Int) := by omega
            have hc1 : (cc : Int) < 256 := by omega
            clear hk hin hcs hpv hbc HRF HND HB htk hsn hmp hlen hcc hBg
            generalize txt l i = s1 at kp rcv ADD hix
            go_wp2_with fail
            refine Calls.mono CA.out ?_
            rintro e Wd ⟨rfl, HRd, HBd⟩
            obtain ⟨o', n', c', w', k0, r1, k1, k2, HE⟩ := ADD.out Wd HRd.out HBd.out
            obtain ⟨W3, hW3⟩ : ∃ W3, w'.setCell ⟨g, 0, none⟩ (.slice o' n' c') = W3 := ⟨_, rfl⟩
            rw [hW3] at HE
            clear HRd HBd ADD CA
            obtain ⟨D3, hD3⟩ : ∃ D3, W3.drew = D3 := ⟨_, rfl⟩
            have HED : Hid (Rf g (.slice o' n' c') fv (l.take (i + 1)) (fst ((l.take i).map tl)) m D3 ∧ Below g w D3) := by
              rw [← hD3]
              exact ⟨HE.out.1.keep fun _ _ _ => rfl, Below.drewN' HE.out.2 1⟩
            obtain ⟨o5, n5, c5, w5, j0, j1, r2, j2, j3, HE2⟩ := ADF.out (.slice o' n' c') D3 HED.out.1 HED.out.2
            obtain ⟨W5, hW5⟩ : ∃ W5, w5.setCell ⟨g, 1 + cc, none⟩ (.slice o5 n5 c5) = W5 := ⟨_, rfl⟩
            rw [hW5] at HE2
            clear HE HED ADF
            go_wp2_with fail
            go_big_region
            go_wp2
            exact ⟨⟨i + 1, _, _, by rfl, by omega, HE2.out.1, HND2, HE2.out.2⟩, by simp only [intOf]; omega⟩
        · have hi1 : ¬ ((i : Int) < (l.length : Int)) := by omega
          have hie : i = l.length := by omega
          subst hie
          have HE : Hid (RNew l w (.returned (.tuple #[.pointer (some ⟨g, 0, none⟩), .int .i64 0])) wr) := by
            have h1 := HRF.out
            have h2 := HND.out
            rw [List.take_length] at h1 h2
            rw [HM.out] at h1
            exact .inr (.inr (.inr ⟨h1n, HW2.out, h2, g, rfl, by rw [HG.out]; exact Nat.le_refl _, lv, fv, h1⟩))
          clear HRF HND
          go_wp2
          go_ret2
          exact ⟨HE.out, HB.out⟩
end Go.Proofs.Ytceaklefdahfkab

/- SieveBegins: the document's Scan, Len and Width. -/
namespace Go.Proofs.Ytceaklefdahfkab
open Go.RowKit
theorem scanR_nil (v : Value) (w : World) : Calls Try.prog 62 #[.pointer none, v] w fun e w' => e = .returned (.slice none 0 0) ∧ w' = w := by
  go_enter Try.func62, Try.ntmps62
  go_wp2
  go_ret
  exact ⟨rfl, rfl⟩
theorem scanR_0 (g : Nat) (lv : Value) (fv : Nat → Value) (l : List ByteArray) (F : Nat → List Nat) (v : Value) (w : World) (h : Rf g lv fv l F 0 w) : Calls Try.prog 62 #[.pointer (some ⟨g, 0, none⟩), v] w fun e w' => e = .returned (.slice none 0 0) ∧ w' = w := by
  have a0 : w.cell? ⟨g, 257, none⟩ = some (.int .i64 0) := (cell_of_row w g _ _ _ _ h.row).trans (rfC_w _ _ _)
  clear h
  go_enter Try.func62, Try.ntmps62
  go_wp2
  go_ret
  exact ⟨rfl, rfl⟩
theorem run_cutL2 (b off n c p : Nat) (h : p < n) (hc : n ≤ c) (w : World) : (slB (.slice (some ⟨b, off, none⟩) n c) (some (.int .i64 (p : Int))) none none).run Try.prog w = .ok (.slice (some ⟨b, off + p, none⟩) (n - p) (c - p)) w := by
  have := run_slice_l (P := Try.prog) w 23 (some ⟨b, off, none⟩) n c u27 .i64 (p : Int) (by omega) (by omega)
  unfold slB
  rw [this, elem27, run_size1 w size5]
  simp only [Result.andThen, sliced, Int.toNat_natCast, Option.map_some, Nat.mul_one]
  rw [if_neg (by omega), Go.WideShapes.add_plain]
attribute [local go_sem ↓] toSlB toApp
set_option maxRecDepth 100000 in
set_option maxHeartbeats 1600000 in
theorem scanR_any (g : Nat) (lv : Value) (fv : Nat → Value) (l : List ByteArray) (m : Nat) (hm : 0 < m) (hm1 : m ≤ 64) (hln : l.length ≤ 4096) (hnd : (l.map tl).Nodup) (p : List Nat) (hpb : Byt p) (hpl : p.length ≤ 1048576) (pv : Value) (w : World) (h : Rf g lv fv l (fst (l.map tl)) m w) (hp : Si .u8 pv p w) :
    Calls Try.prog 62 #[.pointer (some ⟨g, 0, none⟩), pv] w fun e w' => ∃ v, e = .returned v ∧ Hl v (hts (l.map tl) m p) w' ∧ Below w.heap.size w w' := by
  obtain ⟨o, c, rfl, hc1, hc2, hpf⟩ := hp.form
  have HP : Hid (Si .u8 (.slice o p.length c) p w) := hp
  have HR : Hid _ := h
  have a2 : w.cell? ⟨g, 257, none⟩ = some (.int .i64 (m : Int)) := (cell_of_row w g _ _ _ _ h.row).trans (rfC_w _ _ _)
  have gz : g < w.heap.size := h.gz
  have HND : Hid _ := hnd
  have HPB : Hid _ := hpb
  have HPF : Hid (0 < p.length → ∃ b off, o = some ⟨b, off, none⟩ ∧ b < w.heap.size ∧ ∀ j, j < p.length → w.cell? ⟨b, off + j, none⟩ = some (.int .u8 ((p.getD j 0 : Nat) : Int))) := hpf
  have hm0 : ((m : Int) == 0) = false := beq_eq_false_iff_ne.2 (by omega)
  have hmn : ¬ ((m : Int) = 0) := by omega
  clear hp h hnd hpb hpf
  go_enter Try.func62, Try.ntmps62
  go_wp2_with fail
  go_loopw [5, 6] (fun hv iv wr => ∃ i : Nat, iv = .int .i64 (i : Int) ∧ i ≤ p.length + 1 - m ∧ Hid (wr.ownsRow w.heap.size 39 2 hv (hcn (l.map tl) m p i) (hc ((List.range i).flatMap (htA (l.map tl) m p)))) ∧ Hid (Below w.heap.size w wr)) (fun _ iv _ => p.length + 1 - (intOf iv).toNat)
  case atStart => exact ⟨0, rfl, by omega, World.ownsRow_nil _ _ _ _, Below.refl _ _⟩
  case round =>
    obtain ⟨i, rfl, hi, HO, HB⟩ := hrel
    obtain ⟨ou, cu, rfl⟩ := own_size HO.out
    have k2 : wr.cell? ⟨g, 257, none⟩ = some (.int .i64 (m : Int)) := (World.cell?_of_block (w := w) (HB.out.block g gz)).trans a2
    obtain ⟨s, hs⟩ : ∃ s, s = i + m := ⟨_, rfl⟩
    have es : IntKind.i64.wrap ((i : Int) + (m : Int)) = (s : Int) := by rw [wi _ (by unfold I64; omega)]; omega
    by_cases hsd : s ≤ p.length
    · have hsd' : (s : Int) ≤ (p.length : Int) := by omega
      obtain ⟨b, off, rfl, hb, hcp⟩ := HPF.out (by omega)
      have ct := run_cutL2 b off p.length c i (by omega) hc1
      have hdl : (p.drop i).length = p.length - i := by rw [List.length_drop]
      have hsi : Si .u8 (.slice (some ⟨b, off + i, none⟩) (p.length - i) (c - i)) (p.drop i) wr := .inr ⟨b, off + i, c - i, by rw [hdl], by omega, by unfold maxLen; omega, by have := HB.out.size; omega, fun j hj => by
        rw [hdl] at hj
        rw [Nat.add_assoc, World.cell?_of_block (w := w) (HB.out.block b hb), hcp (i + j) (by omega)]
        have : (p.drop i).getD j 0 = p.getD (i + j) 0 := by rw [List.getD, List.getElem?_drop, ← List.getD]
        rw [this]⟩
      have CA : Hid (Calls Try.prog 80 #[.pointer (some ⟨g, 0, none⟩), .slice (some ⟨b, off + i, none⟩) (p.length - i) (c - i)] wr fun e w' => e = .returned (.int .i64 (atV (l.map tl) ((p.drop i).take m))) ∧ Below wr.heap.size wr w') :=
        at_any g lv fv l m hm hm1 hln HND.out (p.drop i) (fun x hx => HPB.out x (List.mem_of_mem_drop hx)) (by rw [hdl]; omega) (by rw [hdl]; omega) _ wr (HR.out.below HB.out) hsi
      have hle := hcn_le (l.map tl) m p i
      have hsu := hcn_succ (l.map tl) m p i
      have hfm : (List.range (i + 1)).flatMap (htA (l.map tl) m p) = (List.range i).flatMap (htA (l.map tl) m p) ++ htA (l.map tl) m p i := by
        rw [List.range_succ, List.flatMap_append]; simp
      by_cases hin : (p.drop i).take m ∈ l.map tl
      · have hk : atV (l.map tl) ((p.drop i).take m) = (((l.map tl).idxOf ((p.drop i).take m) : Nat) : Int) := by rw [atV, if_pos hin]
        rw [hk] at CA
        rw [if_pos hin] at hsu
        have hha : htA (l.map tl) m p i = [((i : Int), (((l.map tl).idxOf ((p.drop i).take m) : Nat) : Int))] := by rw [htA, if_pos hin]
        rw [hha] at hfm
        generalize (l.map tl).idxOf ((p.drop i).take m) = kk at CA hfm
        have hk0 : (0 : Int) ≤ (kk : Int) := by omega
        have ADD : Hid (∀ W, Below wr.heap.size wr W → ∃ v' W', (appH 31 #[.slice ou (hcn (l.map tl) m p i) cu, .slice (some ⟨W.heap.size, 0, none⟩) 1 1]).run Try.prog (W.alloc (.cells #[.int .i64 (i : Int), .int .i64 (kk : Int)] 39)) = .ok v' W' ∧ Hid (W'.ownsRow w.heap.size 39 2 v' (hcn (l.map tl) m p (i + 1)) (hc ((List.range (i + 1)).flatMap (htA (l.map tl) m p)))) ∧ Hid (Below w.heap.size w W')) := fun W hbW => by
          have hBw : Below w.heap.size w W := HB.out.trans (hbW.mono HB.out.size)
          have hoW : W.ownsRow w.heap.size 39 2 (.slice ou (hcn (l.map tl) m p i) cu) (hcn (l.map tl) m p i) (hc ((List.range i).flatMap (htA (l.map tl) m p))) := own_keep2 HO.out fun k hk => hbW.block k (HO.out.lt k hk).2
          obtain ⟨v', W', r, ho, hg⟩ := run_app1h W w.heap.size _ 31 _ _ (i : Int) (kk : Int) hoW (by omega) hBw.size
          refine ⟨v', W', r, by rw [hsu, hfm]; exact ho, hBw.trans ⟨by rw [hg.os]; rfl, by rw [hg.tape]; rfl, by rw [hg.output]; rfl, by have := hg.size; simp at this; omega, fun j hj => ?_⟩⟩
          have hz := hBw.size
          rw [hg.block j (by simp; omega) (fun e => by have := (hoW.lt j e.symm).1; omega), heap_alloc_old _ _ (h := by omega)]
        clear hk hin hha hfm hsu hsi hcp hdl
        have HS : Hid (s = i + m) := hs
        clear hs
        generalize hcn (l.map tl) m p i = N at *
        go_wp2_with fail
        refine Calls.mono CA.out ?_
        rintro e Wd ⟨rfl, hbd⟩
        obtain ⟨v', W', r, HO2, HB2⟩ := ADD.out Wd hbd
        clear hbd
        go_wp2
        exact ⟨⟨i + 1, by rfl, by have := HS.out; omega, HO2, HB2⟩, by have := HS.out; simp only [intOf]; omega⟩
      · have hk : atV (l.map tl) ((p.drop i).take m) = -1 := by rw [atV, if_neg hin]
        rw [hk] at CA
        rw [if_neg hin, Nat.add_zero] at hsu
        have hha : htA (l.map tl) m p i = [] := by rw [htA, if_neg hin]
        rw [hha, List.append_nil] at hfm
        have HO2 : Hid (∀ W, Below wr.heap.size wr W → W.ownsRow w.heap.size 39 2 (.slice ou (hcn (l.map tl) m p i) cu) (hcn (l.map tl) m p (i + 1)) (hc ((List.range (i + 1)).flatMap (htA (l.map tl) m p)))) := fun W hbW => by
          rw [hsu, hfm]
          exact own_keep2 HO.out fun k hk => hbW.block k (HO.out.lt k hk).2
        clear hk hin hha hfm hsu hsi hcp hdl
        have HS : Hid (s = i + m) := hs
        clear hs
        go_wp2_with fail
        refine Calls.mono CA.out ?_
        rintro e Wd ⟨rfl, hbd⟩
        have HO3 : Hid _ := HO2.out Wd hbd
        have HB3 : Hid (Below w.heap.size w Wd) := HB.out.trans (hbd.mono HB.out.size)
        clear hbd
        go_wp2
        exact ⟨⟨i + 1, by rfl, by have := HS.out; omega, HO3, HB3⟩, by have := HS.out; simp only [intOf]; omega⟩
    · have hsd' : ¬ ((s : Int) ≤ (p.length : Int)) := by omega
      have hie : i = p.length + 1 - m := by omega
      have HE : Hid (Hl (.slice ou (hcn (l.map tl) m p i) cu) (hts (l.map tl) m p) wr) := by
        have := (hl_own HO.out).1
        unfold hts
        rw [← hie]
        exact this
      clear hie hs HO
      generalize hcn (l.map tl) m p i = N at *
      go_wp2
      go_ret
      exact ⟨_, rfl, HE.out, HB.out⟩
end Go.Proofs.Ytceaklefdahfkab
