/- SieveFinds: words. -/
import Derived.Test.YtceaklefdahfkabFn1
import Derived.Test.YtceaklefdahfkabSv20
import Derived.Laws.BytesArg
namespace Go.Proofs.Ytceaklefdahfkab
open Go.RowKit
/-- Bytes as a text. -/
def bst (l : List Nat) : ByteArray := strOfNums (l.map (fun (x : Nat) => (x : Int)))
theorem tl_bst (l : List Nat) (h : Byt l) : tl (bst l) = l := by
  unfold tl bst strOfNums
  simp only [List.map_map]
  apply List.ext_getElem
  · simp
  · intro i h1 h2
    have := h l[i] (List.getElem_mem h2)
    simp
    omega
theorem bst_size (l : List Nat) : (bst l).size = l.length := by
  unfold bst strOfNums
  show (List.toArray _).size = _
  simp
theorem conv_si {w : World} {v : Value} {l : List Nat} (h : Si .u8 v l w) : (convert 23 9 v).run Try.prog w = .ok (.string (bst l)) w := by
  rcases h with ⟨rfl, rfl⟩ | ⟨b, off, cap, rfl, h2, h3, h5, h6⟩
  · exact run_convert_bytes_nil w 23 5 Try.underlying23 Try.underlying5 0 0 9 Try.underlying9
  · refine run_convert_bytes_arg w 23 5 Try.underlying23 Try.underlying5 b off l.length cap (l.map (fun (x : Nat) => (x : Int))) (by rw [List.length_map]) (fun i hi => ?_) 9 Try.underlying9
    rw [h6 i hi]
    simp [List.getD, hi]
/-- A word. -/
def wrd (s : ByteArray) (m i : Nat) : List Nat := (ovr (List.replicate m 0) ((tl s).take (min s.size m)) 0).set (m - 1) (i % 256)
theorem wrd0_len (s : ByteArray) (m : Nat) : (ovr (List.replicate m 0) ((tl s).take (min s.size m)) 0).length = m := by
  rw [ovr_len _ _ _ (by rw [List.length_take, tl_len, List.length_replicate]; omega), List.length_replicate]
theorem wrd_len (s : ByteArray) (m i : Nat) : (wrd s m i).length = m := by rw [wrd, List.length_set, wrd0_len]
theorem wrd_byt (s : ByteArray) (m i : Nat) : Byt (wrd s m i) := fun x hx => by
  unfold wrd at hx
  rcases List.mem_or_eq_of_mem_set hx with h | h
  · exact ovr_byt (fun y hy => by rw [List.eq_of_mem_replicate hy]; decide) (fun y hy => tl_byt s y (List.mem_of_mem_take hy)) 0 x h
  · rw [h]; exact Nat.mod_lt _ (by decide)
def wds (l : List ByteArray) (m k : Nat) : List ByteArray := (List.range k).map fun j => bst (wrd (txt l j) m j)
theorem wds_len (l : List ByteArray) (m k : Nat) : (wds l m k).length = k := by simp [wds]
theorem wds_succ (l : List ByteArray) (m k : Nat) : wds l m (k + 1) = wds l m k ++ [bst (wrd (txt l k) m k)] := by simp [wds, List.range_succ]
theorem sk_snoc (l : List ByteArray) (s : ByteArray) : (sk (l ++ [s])).toList = (sk l).toList ++ [.string s] := by simp [sk]
def apS (ty : Nat) (vs : Array Value) : Sem Value := Builtin.append_ #[22, 22] ty vs
theorem toApS (ty : Nat) (vs : Array Value) : Builtin.append_ #[22, 22] ty vs = apS ty vs := rfl
theorem run_apS (w : World) (base n ty : Nat) (v : Value) (l : List ByteArray) (s : ByteArray) (hown : w.ownsRow base 9 1 v n (sk l).toList) (hb : n ≤ 1048576) (hbase : base ≤ w.heap.size) :
    ∃ v' w', (apS ty #[v, .slice (some ⟨w.heap.size, 0, none⟩) 1 1]).run Try.prog (w.alloc (.cells #[.string s] 9)) = .ok v' w' ∧ w'.ownsRow base 9 1 v' (n + 1) (sk (l ++ [s])).toList ∧ (w.alloc (.cells #[.string s] 9)).grownBy w' v.ownBlock := by
  obtain ⟨i0, hi0, hz0, hz1, hz2⟩ := info_parts info9
  obtain ⟨v', w', hr, ho, hg, _, hat⟩ := run_append_own_at (P := Try.prog) (w.alloc (.cells #[.string s] 9)) base 22 ty 9 i0 _ 1 16 Try.underlying22 hi0 hz0 hz1 hz2 rfl (by omega) v n _ (hown.alloc _) ⟨w.heap.size, 0, none⟩ 1 1 [.string s] rfl
    (World.news_of_block (cs := #[.string s]) (t := 9) (fr := (0, 0)) (heap_alloc_new w _)) (fun u hu => by simp at hu; subst hu; rfl) (by unfold maxLen; omega) (by omega) (by simp; omega)
  exact ⟨v', w', hr, by rw [sk_snoc]; exact ho, hg⟩
theorem own_st {B n : Nat} {v : Value} {l : List ByteArray} {w : World} (h : w.ownsRow B 9 1 v n (sk l).toList) (hn : n = l.length) : St v l w := by
  subst hn
  obtain ⟨_, ⟨h1, h2⟩ | ⟨g, cap, cur, h1, h2, h3, h4, h5, h6, h7⟩⟩ := h
  · exact .inl ⟨h1, List.length_eq_zero_iff.1 h2⟩
  · refine .inr ⟨g, 0, cap, h1, h4, h5, (Array.getElem?_eq_some_iff.1 h3).1, fun j s hj => ?_⟩
    have hj2 : j < l.length := (List.getElem?_eq_some_iff.1 hj).1
    have := sk_get l j hj2
    rw [← Array.getElem?_toList, ← h7, List.getElem?_take_of_lt (by omega), Array.getElem?_toList] at this
    rw [Nat.zero_add, cell_of_row w g _ _ _ _ h3, this, ← Option.some.inj ((txt_get hj2).symm.trans hj)]
theorem i64_and15 (n : Int) : bits .and .i64 n 15 = n % 16 := by
  have h15 : (BitVec.ofInt 64 15).toNat = 2 ^ 4 - 1 := by decide
  have key : (BitVec.ofInt 64 n &&& BitVec.ofInt 64 15).toNat = (n % ((2 ^ 64 : Nat) : Int)).toNat % 2 ^ 4 := by
    rw [BitVec.toNat_and, BitVec.toNat_ofInt, h15, Nat.and_two_pow_sub_one_eq_mod]
  show IntKind.i64.wrap ((BitVec.ofInt 64 n &&& BitVec.ofInt 64 15).toNat : Nat) = n % 16
  rw [key, IntKind.wrap_i64]
  omega
attribute [local go_sem ↓] toMkB toCpS toApS
set_option maxRecDepth 100000 in
set_option maxHeartbeats 1600000 in
theorem words_any (l : List ByteArray) (hl : l.length ≤ 1073741824) (z : Int) (v : Value) (w : World) (hv : St v l w) :
    Calls Try.prog 8 #[v, .int .i64 z] w fun e w' => ∃ (m : Nat) (u : Value), e = .returned u ∧ 2 ≤ m ∧ m ≤ 17 ∧ w'.ownsRow w.heap.size 9 1 u (min 24 l.length) (sk (wds l m (min 24 l.length))).toList ∧ Below w.heap.size w w' := by
  obtain ⟨m, hm, hm2, hm17⟩ : ∃ m : Nat, IntKind.i64.wrap (2 + bits .and .i64 z 15) = (m : Int) ∧ 2 ≤ m ∧ m ≤ 17 := by
    rw [i64_and15]
    refine ⟨(2 + z % 16).toNat, ?_, by omega, by omega⟩
    rw [wi _ (by unfold I64; omega)]; omega
  obtain ⟨o, c, rfl, hc1, hc2, hf⟩ := hv.form
  have HF : Hid (∀ j, j < l.length → ∃ b off, o = some ⟨b, off, none⟩ ∧ b < w.heap.size ∧ w.cell? ⟨b, off + j, none⟩ = some (.string (txt l j))) := fun j hj => by
    obtain ⟨b, off, h1, h2, h3⟩ := hf (by omega)
    exact ⟨b, off, h1, h2, h3 j _ (txt_get hj)⟩
  obtain ⟨n, hn⟩ : ∃ n, n = min 24 l.length := ⟨_, rfl⟩
  rw [← hn]
  clear hv hf
  go_enter Try.func8, Try.ntmps8
  by_cases hcut : 24 < l.length
  · have hcut' : (24 : Int) < (l.length : Int) := by omega
    have hne : n = 24 := by omega
    clear hn
    subst hne
    go_wp2_with fail
    go_loopw [5, 6] (fun uv iv wr => ∃ i : Nat, iv = .int .i64 (i : Int) ∧ i ≤ 24 ∧ Hid (wr.ownsRow w.heap.size 9 1 uv i (sk (wds l m i)).toList) ∧ Hid (Below w.heap.size w wr)) (fun _ iv _ => 24 - (intOf iv).toNat)
    case atStart => exact ⟨0, rfl, by omega, World.ownsRow_nil _ _ _ _, Below.refl _ _⟩
    case round =>
      obtain ⟨i, rfl, hi, HO, HB⟩ := hrel
      obtain ⟨ou, cu, rfl⟩ := own_size HO.out
      by_cases hlt : i < 24
      · have hi0 : (0 : Int) ≤ (i : Int) := by omega
        have hi1 : (i : Int) < 24 := by omega
        have hil : (i : Int) < (l.length : Int) := by omega
        obtain ⟨b, off, rfl, hb, hcs⟩ := HF.out i (by omega)
        obtain ⟨W1, r1, R1, B1, z1⟩ := run_mkB wr m (by omega)
        have hcs1 : W1.cell? ⟨b, off + i, none⟩ = some (.string (txt l i)) := (World.cell?_of_block (w := wr) (B1.block b (by have := HB.out.size; omega))).trans ((World.cell?_of_block (w := w) (HB.out.block b hb)).trans hcs)
        have rc := fun ty => run_cpS W1 ty wr.heap.size 0 m m (List.replicate m 0) (txt l i) R1 (by rw [List.length_replicate]; omega)
        obtain ⟨W2, hW2⟩ : ∃ W2, W1.setRow wr.heap.size (ik .u8 (ovr (List.replicate m 0) ((tl (txt l i)).take (min (txt l i).size m)) 0)) = W2 := ⟨_, rfl⟩
        have R2 : W2.heap[wr.heap.size]? = some (.cells (ik .u8 (ovr (List.replicate m 0) ((tl (txt l i)).take (min (txt l i).size m)) 0)) 5 (0, 0)) := by rw [← hW2]; exact setRow_heap _ _ _ _ _ _ R1
        have B2 : Below wr.heap.size wr W2 := by rw [← hW2]; exact below_setRow B1 (Nat.le_refl _) _
        have hl0 := wrd0_len (txt l i) m
        have e1 : IntKind.i64.wrap ((m : Int) - 1) = ((m - 1 : Nat) : Int) := by rw [wi _ (by unfold I64; omega)]; omega
        have e2 : IntKind.u8.wrap (i : Int) = (i : Int) := by rw [IntKind.wrap_u8]; omega
        have c2 : W2.cell? ⟨wr.heap.size, m - 1, none⟩ = some (.int .u8 (((ovr (List.replicate m 0) ((tl (txt l i)).take (min (txt l i).size m)) 0).getD (m - 1) 0 : Nat) : Int)) := (cell_of_row W2 _ _ _ _ _ R2).trans (ik_get _ _ _ (by omega))
        have f2 : W2.frozen? ⟨wr.heap.size, m - 1, none⟩ = false := frozen_of_row W2 _ _ _ _ R2
        obtain ⟨W3, hW3⟩ : ∃ W3, W2.setCell ⟨wr.heap.size, m - 1, none⟩ (.int .u8 (i : Int)) = W3 := ⟨_, rfl⟩
        have R3 : W3.heap[wr.heap.size]? = some (.cells (ik .u8 (wrd (txt l i) m i)) 5 (0, 0)) := by rw [← hW3, wrd, Nat.mod_eq_of_lt (show i < 256 by omega), ← ik_set]; exact heap_setCell_same _ _ _ _ _ _ R2
        have B3 : Below wr.heap.size wr W3 := by rw [← hW3]; exact B2.setCell (Nat.le_refl _) _
        have S3 : Si .u8 (.slice (some ⟨wr.heap.size, 0, none⟩) m m) (wrd (txt l i) m i) W3 := .inr ⟨_, 0, m, by rw [wrd_len], by rw [wrd_len]; exact Nat.le_refl _, by unfold maxLen; omega, (Array.getElem?_eq_some_iff.1 R3).1, fun j hj => by rw [Nat.zero_add]; exact (cell_of_row W3 _ _ _ _ _ R3).trans (ik_get _ _ _ hj)⟩
        have cv := conv_si S3
        have O3 : W3.ownsRow w.heap.size 9 1 (.slice ou i cu) i (sk (wds l m i)).toList := own_keep2 HO.out fun k hk => B3.block k (HO.out.lt k hk).2
        have B3w : Below w.heap.size w W3 := HB.out.trans (B3.mono HB.out.size)
        obtain ⟨v', W4, r4, o4, g4⟩ := run_apS W3 w.heap.size i 22 (.slice ou i cu) (wds l m i) (bst (wrd (txt l i) m i)) O3 (by omega) B3w.size
        rw [← wds_succ] at o4
        have HO4 : Hid (W4.ownsRow w.heap.size 9 1 v' (i + 1) (sk (wds l m (i + 1))).toList) := o4
        have HB4 : Hid (Below w.heap.size w W4) := by
          have hz := B3w.size
          refine B3w.trans ⟨by rw [g4.os]; rfl, by rw [g4.tape]; rfl, by rw [g4.output]; rfl, by have := g4.size; simp at this; omega, fun j hj => ?_⟩
          rw [g4.block j (by simp; omega) (fun e => by have := (O3.lt j e.symm).1; omega), heap_alloc_old _ _ (h := by omega)]
        have hm0 : (0 : Int) ≤ ((m - 1 : Nat) : Int) := by omega
        have hm1 : ((m - 1 : Nat) : Int) < (m : Int) := by omega
        generalize (ovr (List.replicate m 0) ((tl (txt l i)).take (min (txt l i).size m)) 0).getD (m - 1) 0 = q at c2
        clear R1 B1 R2 B2 R3 B3 S3 O3 B3w o4 g4 HO HB hcs hl0
        go_wp2
        exact ⟨⟨i + 1, by rfl, by omega, HO4, HB4⟩, by simp only [intOf]; omega⟩
      · have hi1 : ¬ ((i : Int) < 24) := by omega
        have hie : i = 24 := by omega
        subst hie
        go_wp2
        go_ret
        exact ⟨m, _, rfl, hm2, hm17, HO.out, HB.out⟩
  · have hcut' : ¬ ((24 : Int) < (l.length : Int)) := by omega
    have hne : n = l.length := by omega
    clear hn
    subst hne
    go_wp2_with fail
    go_loopw [5, 6] (fun uv iv wr => ∃ i : Nat, iv = .int .i64 (i : Int) ∧ i ≤ l.length ∧ Hid (wr.ownsRow w.heap.size 9 1 uv i (sk (wds l m i)).toList) ∧ Hid (Below w.heap.size w wr)) (fun _ iv _ => l.length - (intOf iv).toNat)
    case atStart => exact ⟨0, rfl, by omega, World.ownsRow_nil _ _ _ _, Below.refl _ _⟩
    case round =>
      obtain ⟨i, rfl, hi, HO, HB⟩ := hrel
      obtain ⟨ou, cu, rfl⟩ := own_size HO.out
      by_cases hlt : i < l.length
      · have hi0 : (0 : Int) ≤ (i : Int) := by omega
        have hi1 : (i : Int) < (l.length : Int) := by omega
        have hil : (i : Int) < (l.length : Int) := by omega
        obtain ⟨b, off, rfl, hb, hcs⟩ := HF.out i (by omega)
        obtain ⟨W1, r1, R1, B1, z1⟩ := run_mkB wr m (by omega)
        have hcs1 : W1.cell? ⟨b, off + i, none⟩ = some (.string (txt l i)) := (World.cell?_of_block (w := wr) (B1.block b (by have := HB.out.size; omega))).trans ((World.cell?_of_block (w := w) (HB.out.block b hb)).trans hcs)
        have rc := fun ty => run_cpS W1 ty wr.heap.size 0 m m (List.replicate m 0) (txt l i) R1 (by rw [List.length_replicate]; omega)
        obtain ⟨W2, hW2⟩ : ∃ W2, W1.setRow wr.heap.size (ik .u8 (ovr (List.replicate m 0) ((tl (txt l i)).take (min (txt l i).size m)) 0)) = W2 := ⟨_, rfl⟩
        have R2 : W2.heap[wr.heap.size]? = some (.cells (ik .u8 (ovr (List.replicate m 0) ((tl (txt l i)).take (min (txt l i).size m)) 0)) 5 (0, 0)) := by rw [← hW2]; exact setRow_heap _ _ _ _ _ _ R1
        have B2 : Below wr.heap.size wr W2 := by rw [← hW2]; exact below_setRow B1 (Nat.le_refl _) _
        have hl0 := wrd0_len (txt l i) m
        have e1 : IntKind.i64.wrap ((m : Int) - 1) = ((m - 1 : Nat) : Int) := by rw [wi _ (by unfold I64; omega)]; omega
        have e2 : IntKind.u8.wrap (i : Int) = (i : Int) := by rw [IntKind.wrap_u8]; omega
        have c2 : W2.cell? ⟨wr.heap.size, m - 1, none⟩ = some (.int .u8 (((ovr (List.replicate m 0) ((tl (txt l i)).take (min (txt l i).size m)) 0).getD (m - 1) 0 : Nat) : Int)) := (cell_of_row W2 _ _ _ _ _ R2).trans (ik_get _ _ _ (by omega))
        have f2 : W2.frozen? ⟨wr.heap.size, m - 1, none⟩ = false := frozen_of_row W2 _ _ _ _ R2
        obtain ⟨W3, hW3⟩ : ∃ W3, W2.setCell ⟨wr.heap.size, m - 1, none⟩ (.int .u8 (i : Int)) = W3 := ⟨_, rfl⟩
        have R3 : W3.heap[wr.heap.size]? = some (.cells (ik .u8 (wrd (txt l i) m i)) 5 (0, 0)) := by rw [← hW3, wrd, Nat.mod_eq_of_lt (show i < 256 by omega), ← ik_set]; exact heap_setCell_same _ _ _ _ _ _ R2
        have B3 : Below wr.heap.size wr W3 := by rw [← hW3]; exact B2.setCell (Nat.le_refl _) _
        have S3 : Si .u8 (.slice (some ⟨wr.heap.size, 0, none⟩) m m) (wrd (txt l i) m i) W3 := .inr ⟨_, 0, m, by rw [wrd_len], by rw [wrd_len]; exact Nat.le_refl _, by unfold maxLen; omega, (Array.getElem?_eq_some_iff.1 R3).1, fun j hj => by rw [Nat.zero_add]; exact (cell_of_row W3 _ _ _ _ _ R3).trans (ik_get _ _ _ hj)⟩
        have cv := conv_si S3
        have O3 : W3.ownsRow w.heap.size 9 1 (.slice ou i cu) i (sk (wds l m i)).toList := own_keep2 HO.out fun k hk => B3.block k (HO.out.lt k hk).2
        have B3w : Below w.heap.size w W3 := HB.out.trans (B3.mono HB.out.size)
        obtain ⟨v', W4, r4, o4, g4⟩ := run_apS W3 w.heap.size i 22 (.slice ou i cu) (wds l m i) (bst (wrd (txt l i) m i)) O3 (by omega) B3w.size
        rw [← wds_succ] at o4
        have HO4 : Hid (W4.ownsRow w.heap.size 9 1 v' (i + 1) (sk (wds l m (i + 1))).toList) := o4
        have HB4 : Hid (Below w.heap.size w W4) := by
          have hz := B3w.size
          refine B3w.trans ⟨by rw [g4.os]; rfl, by rw [g4.tape]; rfl, by rw [g4.output]; rfl, by have := g4.size; simp at this; omega, fun j hj => ?_⟩
          rw [g4.block j (by simp; omega) (fun e => by have := (O3.lt j e.symm).1; omega), heap_alloc_old _ _ (h := by omega)]
        have hm0 : (0 : Int) ≤ ((m - 1 : Nat) : Int) := by omega
        have hm1 : ((m - 1 : Nat) : Int) < (m : Int) := by omega
        generalize (ovr (List.replicate m 0) ((tl (txt l i)).take (min (txt l i).size m)) 0).getD (m - 1) 0 = q at c2
        clear R1 B1 R2 B2 R3 B3 S3 O3 B3w o4 g4 HO HB hcs hl0
        go_wp2
        exact ⟨⟨i + 1, by rfl, by omega, HO4, HB4⟩, by simp only [intOf]; omega⟩
      · have hi1 : ¬ ((i : Int) < (l.length : Int)) := by omega
        have hie : i = l.length := by omega
        subst hie
        go_wp2
        go_ret
        exact ⟨m, _, rfl, hm2, hm17, HO.out, HB.out⟩
end Go.Proofs.Ytceaklefdahfkab
