/- Several texts in one: Fn1, Fn2, Fn3, Fn4. -/
import Derived.Test.YtceaklefdahfkabSv11
import Derived.Laws.CopyRow
import Derived.Laws.IdiomCopy
import Derived.Test.YtceaklefdahfkabSv20
import Derived.Laws.BytesArg
import Derived.BigRegion
import Derived.Test.YtceaklefdahfkabAm6
import Derived.BigQuiet
/- SieveFinds: bytes copied. -/
namespace Go.Proofs.Ytceaklefdahfkab
open Go.RowKit
def mkB (l c : Value) : Sem Value := Instr.makeSlice 23 l c
theorem toMkB (l c : Value) : Instr.makeSlice 23 l c = mkB l c := rfl
set_option maxRecDepth 1000000 in
theorem run_mkB (w : World) (n : Nat) (hn : n ≤ 1099511627776) : ∃ w', (mkB (.int .i64 (n : Int)) (.int .i64 (n : Int))).run Try.prog w = .ok (.slice (some ⟨w.heap.size, 0, none⟩) n n) w' ∧ w'.heap[w.heap.size]? = some (.cells (ik .u8 (List.replicate n 0)) 5 (0, 0)) ∧ Below w.heap.size w w' ∧ w'.heap.size = w.heap.size + 1 := by
  obtain ⟨i0, hi0, hz0, hz1, hz2⟩ := info_parts info5
  have hr := run_make (P := Try.prog) w 23 5 i0 _ (by kernel_rfl) hi0 hz0 .i64 .i64 n n (by omega) (Int.le_refl _) (by rw [hz2]; omega) (by omega)
  simp only [Int.toNat_natCast] at hr
  refine ⟨_, hr, ?_, (Below.refl _ w).alloc (Nat.le_refl _) _, by simp⟩
  rw [heap_alloc_new, hz1, Nat.mul_one]
  congr 2
  apply Array.ext'
  have : (Value.int IntKind.u8 0).cells = #[Value.int .u8 0] := rfl
  rw [this, toList_madeCells_one]
  simp [ik]
/-- Bytes laid over others from a place on. -/
def ovr (l e : List Nat) (o : Nat) : List Nat := l.take o ++ e ++ l.drop (o + e.length)
theorem ovr_len (l e : List Nat) (o : Nat) (h : o + e.length ≤ l.length) : (ovr l e o).length = l.length := by
  unfold ovr
  rw [List.length_append, List.length_append, List.length_take, List.length_drop]; omega
theorem ovr_byt {l e : List Nat} (hl : Byt l) (he : Byt e) (o : Nat) : Byt (ovr l e o) := fun x hx => by
  unfold ovr at hx
  rcases List.mem_append.1 hx with hx | hx
  · rcases List.mem_append.1 hx with hx | hx
    · exact hl x (List.mem_of_mem_take hx)
    · exact he x hx
  · exact hl x (List.mem_of_mem_drop hx)
theorem ik_ovr (l e : List Nat) (o : Nat) : ((ik .u8 l).toList.take o ++ (e.map fun (x : Nat) => Value.int .u8 (x : Int)) ++ (ik .u8 l).toList.drop (o + e.length)).toArray = ik .u8 (ovr l e o) := by
  simp [ik, ovr, List.map_drop, List.map_take]
def cpB (ty : Nat) (vs : Array Value) : Sem Value := Builtin.copy_ #[23, 23] ty vs
theorem toCpB (ty : Nat) (vs : Array Value) : Builtin.copy_ #[23, 23] ty vs = cpB ty vs := rfl
def cpS (ty : Nat) (vs : Array Value) : Sem Value := Builtin.copy_ #[23, 9] ty vs
theorem toCpS (ty : Nat) (vs : Array Value) : Builtin.copy_ #[23, 9] ty vs = cpS ty vs := rfl
theorem setRow_same {w : World} {g : Nat} {l : List Nat} {t : TypeId} (hg : w.heap[g]? = some (.cells (ik .u8 l) t (0, 0))) (o : Nat) : w.setRow g (ik .u8 (ovr l [] o)) = w := by
  have : ovr l [] o = l := by simp [ovr]
  rw [this]; exact setRow_self w g _ t _ hg
/-- Bytes copied from bytes. -/
theorem run_cpB (W : World) (ty g : Nat) (l e : List Nat) (hl : e.length = l.length) (v : Value) (hrow : W.heap[g]? = some (.cells (ik .u8 l) 5 (0, 0))) (hv : Si .u8 v e W) :
    (cpB ty #[.slice (some ⟨g, 0, none⟩) l.length l.length, v]).run Try.prog W = .ok (goInt e.length) (W.setRow g (ik .u8 e)) := by
  have he0 : ovr l e 0 = e := by simp [ovr, hl]
  rcases hv with ⟨rfl, rfl⟩ | ⟨b, off, cap, rfl, hc1, hc2, hbl, hcell⟩
  · have := setRow_same hrow 0
    rw [he0] at this
    rw [this]
    exact run_copy_nil (P := Try.prog) W 23 23 ty 5 ⟨g, 0, none⟩ _ _ Try.underlying23 (by kernel_rfl)
  · by_cases h0 : e.length = 0
    · have e0 : e = [] := List.length_eq_zero_iff.1 h0
      have := setRow_same hrow 0
      rw [← e0, he0] at this
      rw [this, h0]
      exact run_copy_none (P := Try.prog) W 23 23 ty 5 _ _ _ _ 0 cap Try.underlying23 size5 (by simp)
    have hlen : (e.map fun (x : Nat) => Value.int .u8 (x : Int)).length = e.length := by rw [List.length_map]
    have hc := run_copy_row (P := Try.prog) W 23 23 ty 5 g 0 l.length l.length ⟨b, off, none⟩ e.length cap _ 5 (e.map fun (x : Nat) => Value.int .u8 (x : Int)) Try.underlying23 size5 hrow (by rw [hlen, hl]; simp) (fun j v hj => ?_) (by rw [hlen, ik_size]; omega) (fun v hv => by obtain ⟨x, _, rfl⟩ := List.mem_map.1 hv; rfl)
    · rw [hlen] at hc
      have h2 := ik_ovr l e 0
      rw [he0] at h2
      rw [h2] at hc
      exact hc
    · have hj2 : j < e.length := by rw [← hlen]; exact (List.getElem?_eq_some_iff.1 hj).1
      have ev : v = Value.int .u8 ((e.getD j 0 : Nat) : Int) := by
        simp only [List.getElem?_map] at hj
        rw [List.getElem?_eq_getElem hj2] at hj
        simp only [Option.map_some, Option.some.injEq] at hj
        rw [← hj]
        simp [List.getD, hj2]
      rw [ev, Go.WideShapes.add_plain]
      exact hcell j hj2
/-- Bytes copied from a text. -/
theorem run_cpS (W : World) (ty g o dLen dCap : Nat) (l : List Nat) (s : ByteArray) (hrow : W.heap[g]? = some (.cells (ik .u8 l) 5 (0, 0))) (hfit : o + min s.size dLen ≤ l.length) :
    (cpS ty #[.slice (some ⟨g, o, none⟩) dLen dCap, .string s]).run Try.prog W = .ok (goInt (min s.size dLen)) (W.setRow g (ik .u8 (ovr l ((tl s).take (min s.size dLen)) o))) := by
  obtain ⟨e, he⟩ : ∃ e, e = (tl s).take (min s.size dLen) := ⟨_, rfl⟩
  have hel : e.length = min s.size dLen := by rw [he, List.length_take, tl_len]; omega
  have hlen : (e.map fun (x : Nat) => Value.int .u8 (x : Int)).length = e.length := by rw [List.length_map]
  have hst := run_storeCells_at Try.prog g o 5 (e.map fun (x : Nat) => Value.int .u8 (x : Int)) 0 _ W hrow (by rw [hlen, ik_size, hel]; simpa using hfit) (fun v hv => by obtain ⟨x, _, rfl⟩ := List.mem_map.1 hv; rfl)
  rw [hlen, Nat.add_zero, ik_ovr l e o] at hst
  have htk : List.take (min s.size dLen) (List.map (fun b : UInt8 => Value.int IntKind.u8 (b.toNat : Int)) s.data.toList) = e.map fun (x : Nat) => Value.int .u8 (x : Int) := by
    rw [he]; simp [tl, List.map_take]; rfl
  rw [← he]
  obtain ⟨i0, hi0, hz0, hz1, hz2⟩ := info_parts info5
  unfold cpS
  have hm : Nat.min s.size dLen = min s.size dLen := rfl
  simp [Builtin.copy_, run_underlying Try.underlying23, Builtin.lenOf, Builtin.firstCells, sizeOf, typeInfo, hi0, hm]
  rw [htk, hst]
  simp [Result.andThen]
  have : ((min s.size dLen : Nat) : Int) = min (s.size : Int) (dLen : Int) := by omega
  rw [this]
attribute [local go_sem ↓] toMkB toCpB
theorem copied_any (d : List Nat) (hd : d.length ≤ 1073741824) (v : Value) (w : World) (hv : Si .u8 v d w) :
    Calls Try.prog 16 #[v] w fun e w' => e = .returned (.slice (some ⟨w.heap.size, 0, none⟩) d.length d.length) ∧ w'.heap[w.heap.size]? = some (.cells (ik .u8 d) 5 (0, 0)) ∧ Below w.heap.size w w' ∧ w'.heap.size = w.heap.size + 1 := by
  obtain ⟨W1, r1, R1, B1, z1⟩ := run_mkB w d.length (by omega)
  have rc := fun ty => run_cpB W1 ty w.heap.size (List.replicate d.length 0) d (by simp) v R1 (hv.below B1)
  simp only [List.length_replicate] at rc
  obtain ⟨o, c, hvo, _⟩ := hv.form
  have H : Hid ((W1.setRow w.heap.size (ik .u8 d)).heap[w.heap.size]? = some (.cells (ik .u8 d) 5 (0, 0)) ∧ Below w.heap.size w (W1.setRow w.heap.size (ik .u8 d)) ∧ (W1.setRow w.heap.size (ik .u8 d)).heap.size = w.heap.size + 1) := ⟨setRow_heap _ _ _ _ _ _ R1, below_setRow B1 (Nat.le_refl _) _, by simp [z1]⟩
  subst hvo
  clear R1 B1 z1 hv
  go_enter Try.func16, Try.ntmps16
  go_wp2
  go_ret
  exact ⟨rfl, H.out⟩
end Go.Proofs.Ytceaklefdahfkab

/- SieveFinds: words. -/
namespace Go.Proofs.Ytceaklefdahfkab
open Go.RowKit
/-- Bytes as a text. -/
def bst (l : List Nat) : ByteArray := strOfNums (l.map (fun (x : Nat) => (x : Int)))
theorem tl_bst (l : List Nat) (h : Byt l) : tl (bst l) = l := by
  unfold tl bst strOfNums
  simp only [List.map_map]
  apply List.ext_getElem
  · simp
  · intro i h1 h2
    have := h l[i] (List.getElem_mem h2)
    simp
    omega
theorem bst_size (l : List Nat) : (bst l).size = l.length := by
  unfold bst strOfNums
  show (List.toArray _).size = _
  simp
theorem conv_si {w : World} {v : Value} {l : List Nat} (h : Si .u8 v l w) : (convert 23 9 v).run Try.prog w = .ok (.string (bst l)) w := by
  rcases h with ⟨rfl, rfl⟩ | ⟨b, off, cap, rfl, h2, h3, h5, h6⟩
  · exact run_convert_bytes_nil w 23 5 Try.underlying23 Try.underlying5 0 0 9 Try.underlying9
  · refine run_convert_bytes_arg w 23 5 Try.underlying23 Try.underlying5 b off l.length cap (l.map (fun (x : Nat) => (x : Int))) (by rw [List.length_map]) (fun i hi => ?_) 9 Try.underlying9
    rw [h6 i hi]
    simp [List.getD, hi]
/-- A word. -/
def wrd (s : ByteArray) (m i : Nat) : List Nat := (ovr (List.replicate m 0) ((tl s).take (min s.size m)) 0).set (m - 1) (i % 256)
theorem wrd0_len (s : ByteArray) (m : Nat) : (ovr (List.replicate m 0) ((tl s).take (min s.size m)) 0).length = m := by
  rw [ovr_len _ _ _ (by rw [List.length_take, tl_len, List.length_replicate]; omega), List.length_replicate]
theorem wrd_len (s : ByteArray) (m i : Nat) : (wrd s m i).length = m := by rw [wrd, List.length_set, wrd0_len]
theorem wrd_byt (s : ByteArray) (m i : Nat) : Byt (wrd s m i) := fun x hx => by
  unfold wrd at hx
  rcases List.mem_or_eq_of_mem_set hx with h | h
  · exact ovr_byt (fun y hy => by rw [List.eq_of_mem_replicate hy]; decide) (fun y hy => tl_byt s y (List.mem_of_mem_take hy)) 0 x h
  · rw [h]; exact Nat.mod_lt _ (by decide)
def wds (l : List ByteArray) (m k : Nat) : List ByteArray := (List.range k).map fun j => bst (wrd (txt l j) m j)
theorem wds_len (l : List ByteArray) (m k : Nat) : (wds l m k).length = k := by simp [wds]
theorem wds_succ (l : List ByteArray) (m k : Nat) : wds l m (k + 1) = wds l m k ++ [bst (wrd (txt l k) m k)] := by simp [wds, List.range_succ]
theorem sk_snoc (l : List ByteArray) (s : ByteArray) : (sk (l ++ [s])).toList = (sk l).toList ++ [.string s] := by simp [sk]
def apS (ty : Nat) (vs : Array Value) : Sem Value := Builtin.append_ #[22, 22] ty vs
theorem toApS (ty : Nat) (vs : Array Value) : Builtin.append_ #[22, 22] ty vs = apS ty vs := rfl
theorem run_apS (w : World) (base n ty : Nat) (v : Value) (l : List ByteArray) (s : ByteArray) (hown : w.ownsRow base 9 1 v n (sk l).toList) (hb : n ≤ 1048576) (hbase : base ≤ w.heap.size) :
    ∃ v' w', (apS ty #[v, .slice (some ⟨w.heap.size, 0, none⟩) 1 1]).run Try.prog (w.alloc (.cells #[.string s] 9)) = .ok v' w' ∧ w'.ownsRow base 9 1 v' (n + 1) (sk (l ++ [s])).toList ∧ (w.alloc (.cells #[.string s] 9)).grownBy w' v.ownBlock := by
  obtain ⟨i0, hi0, hz0, hz1, hz2⟩ := info_parts info9
  obtain ⟨v', w', hr, ho, hg, _, hat⟩ := run_append_own_at (P := Try.prog) (w.alloc (.cells #[.string s] 9)) base 22 ty 9 i0 _ 1 16 Try.underlying22 hi0 hz0 hz1 hz2 rfl (by omega) v n _ (hown.alloc _) ⟨w.heap.size, 0, none⟩ 1 1 [.string s] rfl
    (World.news_of_block (cs := #[.string s]) (t := 9) (fr := (0, 0)) (heap_alloc_new w _)) (fun u hu => by simp at hu; subst hu; rfl) (by unfold maxLen; omega) (by omega) (by simp; omega)
  exact ⟨v', w', hr, by rw [sk_snoc]; exact ho, hg⟩
theorem own_st {B n : Nat} {v : Value} {l : List ByteArray} {w : World} (h : w.ownsRow B 9 1 v n (sk l).toList) (hn : n = l.length) : St v l w := by
  subst hn
  obtain ⟨_, ⟨h1, h2⟩ | ⟨g, cap, cur, h1, h2, h3, h4, h5, h6, h7⟩⟩ := h
  · exact .inl ⟨h1, List.length_eq_zero_iff.1 h2⟩
  · refine .inr ⟨g, 0, cap, h1, h4, h5, (Array.getElem?_eq_some_iff.1 h3).1, fun j s hj => ?_⟩
    have hj2 : j < l.length := (List.getElem?_eq_some_iff.1 hj).1
    have := sk_get l j hj2
    rw [← Array.getElem?_toList, ← h7, List.getElem?_take_of_lt (by omega), Array.getElem?_toList] at this
    rw [Nat.zero_add, cell_of_row w g _ _ _ _ h3, this, ← Option.some.inj ((txt_get hj2).symm.trans hj)]
theorem i64_and15 (n : Int) : bits .and .i64 n 15 = n % 16 := by
  have h15 : (BitVec.ofInt 64 15).toNat = 2 ^ 4 - 1 := by decide
  have key : (BitVec.ofInt 64 n &&& BitVec.ofInt 64 15).toNat = (n % ((2 ^ 64 : Nat) : Int)).toNat % 2 ^ 4 := by
    rw [BitVec.toNat_and, BitVec.toNat_ofInt, h15, Nat.and_two_pow_sub_one_eq_mod]
  show IntKind.i64.wrap ((BitVec.ofInt 64 n &&& BitVec.ofInt 64 15).toNat : Nat) = n % 16
  rw [key, IntKind.wrap_i64]
  omega
attribute [local go_sem ↓] toMkB toCpS toApS
set_option maxRecDepth 100000 in
set_option maxHeartbeats 1600000 in
theorem words_any (l : List ByteArray) (hl : l.length ≤ 1073741824) (z : Int) (v : Value) (w : World) (hv : St v l w) :
    Calls Try.prog 8 #[v, .int .i64 z] w fun e w' => ∃ (m : Nat) (u : Value), e = .returned u ∧ 2 ≤ m ∧ m ≤ 17 ∧ w'.ownsRow w.heap.size 9 1 u (min 24 l.length) (sk (wds l m (min 24 l.length))).toList ∧ Below w.heap.size w w' := by
  obtain ⟨m, hm, hm2, hm17⟩ : ∃ m : Nat, IntKind.i64.wrap (2 + bits .and .i64 z 15) = (m : Int) ∧ 2 ≤ m ∧ m ≤ 17 := by
    rw [i64_and15]
    refine ⟨(2 + z % 16).toNat, ?_, by omega, by omega⟩
    rw [wi _ (by unfold I64; omega)]; omega
  obtain ⟨o, c, rfl, hc1, hc2, hf⟩ := hv.form
  have HF : Hid (∀ j, j < l.length → ∃ b off, o = some ⟨b, off, none⟩ ∧ b < w.heap.size ∧ w.cell? ⟨b, off + j, none⟩ = some (.string (txt l j))) := fun j hj => by
    obtain ⟨b, off, h1, h2, h3⟩ := hf (by omega)
    exact ⟨b, off, h1, h2, h3 j _ (txt_get hj)⟩
  obtain ⟨n, hn⟩ : ∃ n, n = min 24 l.length := ⟨_, rfl⟩
  rw [← hn]
  clear hv hf
  go_enter Try.func8, Try.ntmps8
  by_cases hcut : 24 < l.length
  · have hcut' : (24 : Int) < (l.length : Int) := by omega
    have hne : n = 24 := by omega
    clear hn
    subst hne
    go_wp2_with fail
    go_loopw [5, 6] (fun uv iv wr => ∃ i : Nat, iv = .int .i64 (i : Int) ∧ i ≤ 24 ∧ Hid (wr.ownsRow w.heap.size 9 1 uv i (sk (wds l m i)).toList) ∧ Hid (Below w.heap.size w wr)) (fun _ iv _ => 24 - (intOf iv).toNat)
    case atStart => exact ⟨0, rfl, by omega, World.ownsRow_nil _ _ _ _, Below.refl _ _⟩
    case round =>
      obtain ⟨i, rfl, hi, HO, HB⟩ := hrel
      obtain ⟨ou, cu, rfl⟩ := own_size HO.out
      by_cases hlt : i < 24
      · have hi0 : (0 : Int) ≤ (i : Int) := by omega
        have hi1 : (i : Int) < 24 := by omega
        have hil : (i : Int) < (l.length : Int) := by omega
        obtain ⟨b, off, rfl, hb, hcs⟩ := HF.out i (by omega)
        obtain ⟨W1, r1, R1, B1, z1⟩ := run_mkB wr m (by omega)
        have hcs1 : W1.cell? ⟨b, off + i, none⟩ = some (.string (txt l i)) := (World.cell?_of_block (w := wr) (B1.block b (by have := HB.out.size; omega))).trans ((World.cell?_of_block (w := w) (HB.out.block b hb)).trans hcs)
        have rc := fun ty => run_cpS W1 ty wr.heap.size 0 m m (List.replicate m 0) (txt l i) R1 (by rw [List.length_replicate]; omega)
        obtain ⟨W2, hW2⟩ : ∃ W2, W1.setRow wr.heap.size (ik .u8 (ovr (List.replicate m 0) ((tl (txt l i)).take (min (txt l i).size m)) 0)) = W2 := ⟨_, rfl⟩
        have R2 : W2.heap[wr.heap.size]? = some (.cells (ik .u8 (ovr (List.replicate m 0) ((tl (txt l i)).take (min (txt l i).size m)) 0)) 5 (0, 0)) := by rw [← hW2]; exact setRow_heap _ _ _ _ _ _ R1
        have B2 : Below wr.heap.size wr W2 := by rw [← hW2]; exact below_setRow B1 (Nat.le_refl _) _
        have hl0 := wrd0_len (txt l i) m
        have e1 : IntKind.i64.wrap ((m : Int) - 1) = ((m - 1 : Nat) : Int) := by rw [wi _ (by unfold I64; omega)]; omega
        have e2 : IntKind.u8.wrap (i : Int) = (i : Int) := by rw [IntKind.wrap_u8]; omega
        have c2 : W2.cell? ⟨wr.heap.size, m - 1, none⟩ = some (.int .u8 (((ovr (List.replicate m 0) ((tl (txt l i)).take (min (txt l i).size m)) 0).getD (m - 1) 0 : Nat) : Int)) := (cell_of_row W2 _ _ _ _ _ R2).trans (ik_get _ _ _ (by omega))
        have f2 : W2.frozen? ⟨wr.heap.size, m - 1, none⟩ = false := frozen_of_row W2 _ _ _ _ R2
        obtain ⟨W3, hW3⟩ : ∃ W3, W2.setCell ⟨wr.heap.size, m - 1, none⟩ (.int .u8 (i : Int)) = W3 := ⟨_, rfl⟩
        have R3 : W3.heap[wr.heap.size]? = some (.cells (ik .u8 (wrd (txt l i) m i)) 5 (0, 0)) := by rw [← hW3, wrd, Nat.mod_eq_of_lt (show i < 256 by omega), ← ik_set]; exact heap_setCell_same _ _ _ _ _ _ R2
        have B3 : Below wr.heap.size wr W3 := by rw [← hW3]; exact B2.setCell (Nat.le_refl _) _
        have S3 : Si .u8 (.slice (some ⟨wr.heap.size, 0, none⟩) m m) (wrd (txt l i) m i) W3 := .inr ⟨_, 0, m, by rw [wrd_len], by rw [wrd_len]; exact Nat.le_refl _, by unfold maxLen; omega, (Array.getElem?_eq_some_iff.1 R3).1, fun j hj => by rw [Nat.zero_add]; exact (cell_of_row W3 _ _ _ _ _ R3).trans (ik_get _ _ _ hj)⟩
        have cv := conv_si S3
        have O3 : W3.ownsRow w.heap.size 9 1 (.slice ou i cu) i (sk (wds l m i)).toList := own_keep2 HO.out fun k hk => B3.block k (HO.out.lt k hk).2
        have B3w : Below w.heap.size w W3 := HB.out.trans (B3.mono HB.out.size)
        obtain ⟨v', W4, r4, o4, g4⟩ := run_apS W3 w.heap.size i 22 (.slice ou i cu) (wds l m i) (bst (wrd (txt l i) m i)) O3 (by omega) B3w.size
        rw [← wds_succ] at o4
        have HO4 : Hid (W4.ownsRow w.heap.size 9 1 v' (i + 1) (sk (wds l m (i + 1))).toList) := o4
        have HB4 : Hid (Below w.heap.size w W4) := by
          have hz := B3w.size
          refine B3w.trans ⟨by rw [g4.os]; rfl, by rw [g4.tape]; rfl, by rw [g4.output]; rfl, by have := g4.size; simp at this; omega, fun j hj => ?_⟩
          rw [g4.block j (by simp; omega) (fun e => by have := (O3.lt j e.symm).1; omega), heap_alloc_old _ _ (h := by omega)]
        have hm0 : (0 : Int) ≤ ((m - 1 : Nat) : Int) := by omega
        have hm1 : ((m - 1 : Nat) : Int) < (m : Int) := by omega
        generalize (ovr (List.replicate m 0) ((tl (txt l i)).take (min (txt l i).size m)) 0).getD (m - 1) 0 = q at c2
        clear R1 B1 R2 B2 R3 B3 S3 O3 B3w o4 g4 HO HB hcs hl0
        go_wp2
        exact ⟨⟨i + 1, by rfl, by omega, HO4, HB4⟩, by simp only [intOf]; omega⟩
      · have hi1 : ¬ ((i : Int) < 24) := by omega
        have hie : i = 24 := by omega
        subst hie
        go_wp2
        go_ret
        exact ⟨m, _, rfl, hm2, hm17, HO.out, HB.out⟩
  · have hcut' : ¬ ((24 : Int) < (l.length : Int)) := by omega
    have hne : n = l.length := by omega
    clear hn
    subst hne
    go_wp2_with fail
    go_loopw [5, 6] (fun uv iv wr => ∃ i : Nat, iv = .int .i64 (i : Int) ∧ i ≤ l.length ∧ Hid (wr.ownsRow w.heap.size 9 1 uv i (sk (wds l m i)).toList) ∧ Hid (Below w.heap.size w wr)) (fun _ iv _ => l.length - (intOf iv).toNat)
    case atStart => exact ⟨0, rfl, by omega, World.ownsRow_nil _ _ _ _, Below.refl _ _⟩
    case round =>
      obtain ⟨i, rfl, hi, HO, HB⟩ := hrel
      obtain ⟨ou, cu, rfl⟩ := own_size HO.out
      by_cases hlt : i < l.length
      · have hi0 : (0 : Int) ≤ (i : Int) := by omega
        have hi1 : (i : Int) < (l.length : Int) := by omega
        have hil : (i : Int) < (l.length : Int) := by omega
        obtain ⟨b, off, rfl, hb, hcs⟩ := HF.out i (by omega)
        obtain ⟨W1, r1, R1, B1, z1⟩ := run_mkB wr m (by omega)
        have hcs1 : W1.cell? ⟨b, off + i, none⟩ = some (.string (txt l i)) := (World.cell?_of_block (w := wr) (B1.block b (by have := HB.out.size; omega))).trans ((World.cell?_of_block (w := w) (HB.out.block b hb)).trans hcs)
        have rc := fun ty => run_cpS W1 ty wr.heap.size 0 m m (List.replicate m 0) (txt l i) R1 (by rw [List.length_replicate]; omega)
        obtain ⟨W2, hW2⟩ : ∃ W2, W1.setRow wr.heap.size (ik .u8 (ovr (List.replicate m 0) ((tl (txt l i)).take (min (txt l i).size m)) 0)) = W2 := ⟨_, rfl⟩
        have R2 : W2.heap[wr.heap.size]? = some (.cells (ik .u8 (ovr (List.replicate m 0) ((tl (txt l i)).take (min (txt l i).size m)) 0)) 5 (0, 0)) := by rw [← hW2]; exact setRow_heap _ _ _ _ _ _ R1
        have B2 : Below wr.heap.size wr W2 := by rw [← hW2]; exact below_setRow B1 (Nat.le_refl _) _
        have hl0 := wrd0_len (txt l i) m
        have e1 : IntKind.i64.wrap ((m : Int) - 1) = ((m - 1 : Nat) : Int) := by rw [wi _ (by unfold I64; omega)]; omega
        have e2 : IntKind.u8.wrap (i : Int) = (i : Int) := by rw [IntKind.wrap_u8]; omega
        have c2 : W2.cell? ⟨wr.heap.size, m - 1, none⟩ = some (.int .u8 (((ovr (List.replicate m 0) ((tl (txt l i)).take (min (txt l i).size m)) 0).getD (m - 1) 0 : Nat) : Int)) := (cell_of_row W2 _ _ _ _ _ R2).trans (ik_get _ _ _ (by omega))
        have f2 : W2.frozen? ⟨wr.heap.size, m - 1, none⟩ = false := frozen_of_row W2 _ _ _ _ R2
        obtain ⟨W3, hW3⟩ : ∃ W3, W2.setCell ⟨wr.heap.size, m - 1, none⟩ (.int .u8 (i : Int)) = W3 := ⟨_, rfl⟩
        have R3 : W3.heap[wr.heap.size]? = some (.cells (ik .u8 (wrd (txt l i) m i)) 5 (0, 0)) := by rw [← hW3, wrd, Nat.mod_eq_of_lt (show i < 256 by omega), ← ik_set]; exact heap_setCell_same _ _ _ _ _ _ R2
        have B3 : Below wr.heap.size wr W3 := by rw [← hW3]; exact B2.setCell (Nat.le_refl _) _
        have S3 : Si .u8 (.slice (some ⟨wr.heap.size, 0, none⟩) m m) (wrd (txt l i) m i) W3 := .inr ⟨_, 0, m, by rw [wrd_len], by rw [wrd_len]; exact Nat.le_refl _, by unfold maxLen; omega, (Array.getElem?_eq_some_iff.1 R3).1, fun j hj => by rw [Nat.zero_add]; exact (cell_of_row W3 _ _ _ _ _ R3).trans (ik_get _ _ _ hj)⟩
        have cv := conv_si S3
        have O3 : W3.ownsRow w.heap.size 9 1 (.slice ou i cu) i (sk (wds l m i)).toList := own_keep2 HO.out fun k hk => B3.block k (HO.out.lt k hk).2
        have B3w : Below w.heap.size w W3 := HB.out.trans (B3.mono HB.out.size)
        obtain ⟨v', W4, r4, o4, g4⟩ := run_apS W3 w.heap.size i 22 (.slice ou i cu) (wds l m i) (bst (wrd (txt l i) m i)) O3 (by omega) B3w.size
        rw [← wds_succ] at o4
        have HO4 : Hid (W4.ownsRow w.heap.size 9 1 v' (i + 1) (sk (wds l m (i + 1))).toList) := o4
        have HB4 : Hid (Below w.heap.size w W4) := by
          have hz := B3w.size
          refine B3w.trans ⟨by rw [g4.os]; rfl, by rw [g4.tape]; rfl, by rw [g4.output]; rfl, by have := g4.size; simp at this; omega, fun j hj => ?_⟩
          rw [g4.block j (by simp; omega) (fun e => by have := (O3.lt j e.symm).1; omega), heap_alloc_old _ _ (h := by omega)]
        have hm0 : (0 : Int) ≤ ((m - 1 : Nat) : Int) := by omega
        have hm1 : ((m - 1 : Nat) : Int) < (m : Int) := by omega
        generalize (ovr (List.replicate m 0) ((tl (txt l i)).take (min (txt l i).size m)) 0).getD (m - 1) 0 = q at c2
        clear R1 B1 R2 B2 R3 B3 S3 O3 B3w o4 g4 HO HB hcs hl0
        go_wp2
        exact ⟨⟨i + 1, by rfl, by omega, HO4, HB4⟩, by simp only [intOf]; omega⟩
      · have hi1 : ¬ ((i : Int) < (l.length : Int)) := by omega
        have hie : i = l.length := by omega
        subst hie
        go_wp2
        go_ret
        exact ⟨m, _, rfl, hm2, hm17, HO.out, HB.out⟩
end Go.Proofs.Ytceaklefdahfkab

/- SieveFinds: planted. -/
namespace Go.Proofs.Ytceaklefdahfkab
open Go.RowKit
/-- Bytes with patterns laid into them. -/
def plt (d : List Nat) (ws : List ByteArray) (at' : List Nat) : Nat → List Nat
  | 0 => d
  | k + 1 => ovr (plt d ws at' k) ((tl (txt ws (k % ws.length))).take (min (txt ws (k % ws.length)).size (d.length - at'.getD k 0 % d.length))) (at'.getD k 0 % d.length)
theorem plt_len (d : List Nat) (ws : List ByteArray) (at' : List Nat) (h0 : 0 < d.length) : ∀ k, (plt d ws at' k).length = d.length
  | 0 => rfl
  | k + 1 => by
    have ih := plt_len d ws at' h0 k
    have := Nat.mod_lt (at'.getD k 0) h0
    rw [plt, ovr_len, ih]
    rw [List.length_take, tl_len, ih]; omega
theorem plt_byt (d : List Nat) (hd : Byt d) (ws : List ByteArray) (at' : List Nat) : ∀ k, Byt (plt d ws at' k)
  | 0 => hd
  | k + 1 => ovr_byt (plt_byt d hd ws at' k) (fun y hy => tl_byt _ y (List.mem_of_mem_take hy)) _
def pltD (d : List Nat) (ws : List ByteArray) (at' : List Nat) : List Nat := if d.length = 0 then d else plt d ws at' at'.length
theorem pltD_len (d : List Nat) (ws : List ByteArray) (at' : List Nat) : (pltD d ws at').length = d.length := by
  unfold pltD
  by_cases h : d.length = 0
  · rw [if_pos h]
  · rw [if_neg h]; exact plt_len d ws at' (by omega) _
theorem pltD_byt (d : List Nat) (hd : Byt d) (ws : List ByteArray) (at' : List Nat) : Byt (pltD d ws at') := by
  unfold pltD
  by_cases h : d.length = 0
  · rw [if_pos h]; exact hd
  · rw [if_neg h]; exact plt_byt d hd ws at' _
theorem run_cutL (g n p : Nat) (h : p < n) (w : World) : (slB (.slice (some ⟨g, 0, none⟩) n n) (some (.int .i64 (p : Int))) none none).run Try.prog w = .ok (.slice (some ⟨g, p, none⟩) (n - p) (n - p)) w := by
  have := run_slice_l (P := Try.prog) w 23 (some ⟨g, 0, none⟩) n n u27 .i64 (p : Int) (by omega) (by omega)
  unfold slB
  rw [this, elem27, run_size1 w size5]
  simp only [Result.andThen, sliced, Int.toNat_natCast, Option.map_some, Nat.mul_one]
  rw [if_neg (by omega), Go.WideShapes.add_plain, Nat.zero_add]
attribute [local go_sem ↓] toCpS toSlB
set_option maxRecDepth 100000 in
set_option maxHeartbeats 1600000 in
theorem planted_any (d : List Nat) (hd : d.length ≤ 1073741824) (ws : List ByteArray) (hw0 : 0 < ws.length) (hwl : ws.length ≤ 1073741824) (at' : List Nat) (hal : at'.length ≤ 1073741824) (ha : ∀ j, at'.getD j 0 < 65536) (v u a : Value) (w : World) (hv : Si .u8 v d w) (hu : St u ws w) (hA : Si .u16 a at' w) :
    Calls Try.prog 9 #[v, u, a] w fun e w' => ∃ g, e = .returned (.slice (some ⟨g, 0, none⟩) d.length d.length) ∧ w.heap.size ≤ g ∧ w'.heap[g]? = some (.cells (ik .u8 (pltD d ws at')) 5 (0, 0)) ∧ Below w.heap.size w w' := by
  have CC : Hid _ := copied_any d hd v w hv
  obtain ⟨ou, cu, rfl, _, _, hf⟩ := hu.form
  obtain ⟨oa, ca, rfl, _, _, hfa⟩ := hA.form
  obtain ⟨bu, offu, rfl, hbu, hcu⟩ := hf hw0
  have HU : Hid (∀ j, j < ws.length → w.cell? ⟨bu, offu + j, none⟩ = some (.string (txt ws j))) := fun j hj => hcu j _ (txt_get hj)
  have HA : Hid (∀ j, j < at'.length → ∃ b off, oa = some ⟨b, off, none⟩ ∧ b < w.heap.size ∧ w.cell? ⟨b, off + j, none⟩ = some (.int .u16 ((at'.getD j 0 : Nat) : Int))) := fun j hj => by
    obtain ⟨b, off, h1, h2, h3⟩ := hfa (by omega)
    exact ⟨b, off, h1, h2, h3 j hj⟩
  have HLT : Hid (∀ j, at'.getD j 0 < 65536) := ha
  clear hv hu hA hf hfa hcu ha
  go_enter Try.func9, Try.ntmps9
  go_wp2_with fail
  refine Calls.mono CC.out ?_
  rintro e W0 ⟨rfl, R0, B0, z0⟩
  have HR0 : Hid _ := R0
  have HB0 : Hid _ := B0
  clear CC R0 B0 z0
  obtain ⟨g, hg⟩ : ∃ g, g = w.heap.size := ⟨_, rfl⟩
  have HG : Hid (g = w.heap.size) := hg
  rw [← hg] at HR0 HB0 ⊢
  clear hg
  go_wp2_with fail
  go_loopw [8] (fun iv wr => ∃ k : Nat, iv = .int .i64 (k : Int) ∧ k ≤ at'.length ∧ (d.length = 0 → k = 0) ∧ Hid (wr.heap[g]? = some (.cells (ik .u8 (plt d ws at' k)) 5 (0, 0))) ∧ Hid (Below g w wr)) (fun iv _ => at'.length - (intOf iv).toNat)
  case atStart => exact ⟨0, rfl, by omega, fun _ => rfl, HR0, HB0⟩
  case round =>
    clear HR0 HB0
    obtain ⟨k, rfl, hk, hk0, HR, HB⟩ := hrel
    by_cases hlt : k < at'.length
    · have hk1 : (k : Int) < (at'.length : Int) := by omega
      have hk0' : (0 : Int) ≤ (k : Int) := by omega
      by_cases hd0 : 0 < d.length
      · have hd0' : (0 : Int) < (d.length : Int) := by omega
        obtain ⟨b, off, rfl, hb, hca⟩ := HA.out k hlt
        obtain ⟨q, hq⟩ : ∃ q, q = k % ws.length := ⟨_, rfl⟩
        obtain ⟨x, hx⟩ : ∃ x, x = at'.getD k 0 := ⟨_, rfl⟩
        obtain ⟨p, hp⟩ : ∃ p, p = x % d.length := ⟨_, rfl⟩
        have hqw : q < ws.length := by rw [hq]; exact Nat.mod_lt _ hw0
        have hpd : p < d.length := by rw [hp]; exact Nat.mod_lt _ hd0
        have c1 : wr.cell? ⟨b, off + k, none⟩ = some (.int .u16 (x : Int)) := by
          rw [hx]; exact (World.cell?_of_block (w := w) (HB.out.block b (by rw [HG.out]; exact hb))).trans hca
        have c2 : wr.cell? ⟨bu, offu + q, none⟩ = some (.string (txt ws q)) := (World.cell?_of_block (w := w) (HB.out.block bu (by rw [HG.out]; exact hbu))).trans (HU.out q hqw)
        have hx16 : x < 65536 := by rw [hx]; exact HLT.out k
        have hpl := plt_len d ws at' hd0 k
        obtain ⟨D, hD⟩ : ∃ D, wr.drew = D := ⟨_, rfl⟩
        have hDh : D.heap = wr.heap := by rw [← hD]; rfl
        have c1 : D.cell? ⟨b, off + k, none⟩ = some (.int .u16 (x : Int)) := by rw [← hD]; exact c1
        have c2 : D.cell? ⟨bu, offu + q, none⟩ = some (.string (txt ws q)) := by rw [← hD]; exact c2
        have rc := fun ty => run_cpS D ty g p (d.length - p) (d.length - p) (plt d ws at' k) (txt ws q) (by rw [hDh]; exact HR.out) (by omega)
        have rs := run_cutL g d.length p hpd
        have e1 : Int.tmod (x : Int) (d.length : Int) = (p : Int) := by rw [hp]; exact (Int.ofNat_tmod x d.length).symm
        have e2 : Int.tmod (k : Int) (ws.length : Int) = (q : Int) := by rw [hq]; exact (Int.ofNat_tmod k ws.length).symm
        have n1 : ¬ ((d.length : Int) = 0) := by omega
        have n2 : ¬ ((ws.length : Int) = 0) := by omega
        have q0 : (0 : Int) ≤ (q : Int) := by omega
        have q1 : (q : Int) < (ws.length : Int) := by omega
        have HR2 : Hid ((D.setRow g (ik .u8 (plt d ws at' (k + 1)))).heap[g]? = some (.cells (ik .u8 (plt d ws at' (k + 1))) 5 (0, 0))) := setRow_heap _ _ _ _ _ _ (by rw [hDh]; exact HR.out)
        have HB2 : Hid (Below g w (D.setRow g (ik .u8 (plt d ws at' (k + 1))))) := below_setRow (by rw [← hD]; exact Below.drewN' HB.out 1) (Nat.le_refl _) _
        have hpe : ovr (plt d ws at' k) ((tl (txt ws q)).take (min (txt ws q).size (d.length - p))) p = plt d ws at' (k + 1) := by rw [plt, ← hq, ← hx, ← hp]
        rw [hpe] at rc
        clear hpe HR HB hDh hp hq hx HA
        generalize txt ws q = tw at *
        go_wp2_with fail
        go_big_region
        go_wp2
        exact ⟨⟨k + 1, by rfl, by omega, fun h => by omega, HR2, HB2⟩, by simp only [intOf]; omega⟩
      · have hd0' : ¬ ((0 : Int) < (d.length : Int)) := by omega
        have hd1 : d.length = 0 := by omega
        have hkk := hk0 hd1
        have HE : Hid (wr.heap[g]? = some (.cells (ik .u8 (pltD d ws at')) 5 (0, 0))) := by
          show _ = _
          rw [pltD, if_pos hd1]
          have := HR.out
          rw [hkk] at this; exact this
        have HGB : Hid (w.heap.size ≤ g ∧ Below w.heap.size w wr) := ⟨by rw [HG.out]; exact Nat.le_refl _, by rw [← HG.out]; exact HB.out⟩
        clear hkk hk0 hd1 hd0 HR HB HG HA
        go_wp2
        go_ret
        exact ⟨g, rfl, HGB.out.1, HE.out, HGB.out.2⟩
    · have hk1 : ¬ ((k : Int) < (at'.length : Int)) := by omega
      have hke : k = at'.length := by omega
      have HE : Hid (wr.heap[g]? = some (.cells (ik .u8 (pltD d ws at')) 5 (0, 0))) := by
        show _ = _
        rw [HR.out]
        by_cases h0 : d.length = 0
        · rw [pltD, if_pos h0, hk0 h0]; rfl
        · rw [pltD, if_neg h0, hke]
      have HGB : Hid (w.heap.size ≤ g ∧ Below w.heap.size w wr) := ⟨by rw [HG.out]; exact Nat.le_refl _, by rw [← HG.out]; exact HB.out⟩
      clear hke hk0 HR HB HG HA
      go_wp2
      go_ret
      exact ⟨g, rfl, HGB.out.1, HE.out, HGB.out.2⟩
end Go.Proofs.Ytceaklefdahfkab

/- SieveFinds: stands and count. -/
namespace Go.Proofs.Ytceaklefdahfkab
open Go.RowKit
theorem run_cut64 (b off n c l h : Nat) (h1 : l < h) (h2 : h ≤ c) (w : World) : (slB (.slice (some ⟨b, off, none⟩) n c) (some (.int .i64 (l : Int))) (some (.int .i64 (h : Int))) none).run Try.prog w = .ok (.slice (some ⟨b, off + l, none⟩) (h - l) (c - l)) w := by
  have := run_slice_lh (P := Try.prog) w 23 (some ⟨b, off, none⟩) n c u27 .i64 .i64 (l : Int) (h : Int) (by omega) (by omega) (by omega)
  unfold slB
  rw [this, elem27, run_size1 w size5]
  simp only [Result.andThen, sliced, Int.toNat_natCast]
  rw [if_neg (by omega), Option.map_some, Nat.mul_one, Go.WideShapes.add_plain]
/-- A piece of bytes, as a text. -/
theorem conv_sub (d : List Nat) (b off c i m : Nat) (hc : d.length ≤ c) (hcm : c ≤ maxLen) (hm : i + m ≤ d.length) (w : World) (hb : b < w.heap.size) (hd : ∀ j, j < d.length → w.cell? ⟨b, off + j, none⟩ = some (.int .u8 ((d.getD j 0 : Nat) : Int))) :
    (convert 23 9 (.slice (some ⟨b, off + i, none⟩) m (c - i))).run Try.prog w = .ok (.string (bst ((d.drop i).take m))) w := by
  have hl : ((d.drop i).take m).length = m := by rw [List.length_take, List.length_drop]; omega
  have hs : Si .u8 (.slice (some ⟨b, off + i, none⟩) m (c - i)) ((d.drop i).take m) w := .inr ⟨b, off + i, c - i, by rw [hl], by omega, by omega, hb, fun j hj => by
    rw [hl] at hj
    rw [Nat.add_assoc, hd (i + j) (by omega)]
    have : ((d.drop i).take m).getD j 0 = d.getD (i + j) 0 := by rw [List.getD, List.getElem?_take, if_pos hj, List.getElem?_drop, ← List.getD]
    rw [this]⟩
  exact conv_si hs
attribute [local go_sem ↓] toSlB
set_option maxRecDepth 100000 in
set_option maxHeartbeats 1600000 in
theorem stands_any (d : List Nat) (hdl : d.length ≤ 1073741824) (ws : List ByteArray) (hwl : ws.length ≤ 1073741824) (m i k : Nat) (hm : 0 < m) (hi : i + m ≤ d.length) (hk : k < ws.length) (h0 : (txt ws 0).size = m) (he : txt ws k = bst ((d.drop i).take m)) (v u : Value) (w : World) (hv : Si .u8 v d w) (hu : St u ws w) :
    Calls Try.prog 17 #[v, .agg #[.int .i64 (i : Int), .int .i64 (k : Int)], u] w fun e w' => e = .returned (.bool true) ∧ Below w.heap.size w w' := by
  obtain ⟨W, hW⟩ : ∃ W, w.alloc (.cells #[.int .i64 (i : Int), .int .i64 (k : Int)] 39) = W := ⟨_, rfl⟩
  have B0 : Below w.heap.size w W := by rw [← hW]; exact (Below.refl _ w).alloc (Nat.le_refl _) _
  have R0 : W.heap[w.heap.size]? = some (.cells #[.int .i64 (i : Int), .int .i64 (k : Int)] 39 (0, 0)) := by rw [← hW]; exact heap_alloc_new _ _
  have a0 : W.cell? ⟨w.heap.size, 0, none⟩ = some (.int .i64 (i : Int)) := (cell_of_row W _ _ _ _ _ R0).trans rfl
  have a1 : W.cell? ⟨w.heap.size, 1, none⟩ = some (.int .i64 (k : Int)) := (cell_of_row W _ _ _ _ _ R0).trans rfl
  obtain ⟨od, cd, rfl, hd1, hd2, hdf⟩ := (hv.below B0).form
  obtain ⟨bd, offd, rfl, hbd, hcd⟩ := hdf (by omega)
  obtain ⟨ou, cu, rfl, hu1, hu2, huf⟩ := (hu.below B0).form
  obtain ⟨bu, offu, rfl, hbu, hcu⟩ := huf (by omega)
  have u0 : W.cell? ⟨bu, offu, none⟩ = some (.string (txt ws 0)) := hcu 0 _ (txt_get (by omega))
  have uk : W.cell? ⟨bu, offu + k, none⟩ = some (.string (bst ((d.drop i).take m))) := by rw [← he]; exact hcu k _ (txt_get hk)
  have cvt : ∀ n, (convert 23 9 (.slice (some ⟨bd, offd + i, none⟩) m (cd - i))).run Try.prog (W.drewN n) = .ok (.string (bst ((d.drop i).take m))) (W.drewN n) := fun n => conv_sub d bd offd cd i m hd1 (by unfold maxLen; omega) hi (W.drewN n) hbd hcd
  have ct := run_cut64 bd offd d.length cd i (i + m) (by omega) (by omega)
  rw [show i + m - i = m by omega] at ct
  obtain ⟨s, hs⟩ : ∃ s, s = i + m := ⟨_, rfl⟩
  rw [← hs] at ct hi
  have es : IntKind.i64.wrap ((i : Int) + (m : Int)) = (s : Int) := by rw [wi _ (by unfold I64; omega)]; omega
  have HB : Hid (Below w.heap.size w W) := B0
  have hi0 : (0 : Int) ≤ (i : Int) := by omega
  have hk0 : (0 : Int) ≤ (k : Int) := by omega
  have hk1 : (k : Int) < (ws.length : Int) := by omega
  have hs1 : (s : Int) ≤ (d.length : Int) := by omega
  have g1 : decide (k < ws.length) = true := decide_eq_true hk
  have g2 : decide (s ≤ d.length) = true := decide_eq_true hi
  have hw1 : (0 : Int) < (ws.length : Int) := by omega
  generalize txt ws 0 = s0 at *
  generalize bst ((d.drop i).take m) = tx at *
  clear hv hu hdf huf hcd hcu R0 B0 he hs hd1 hd2 hu1 hu2
  subst h0
  go_enter Try.func17, Try.ntmps17
  go_wp2_with fail
  go_quiet (fail)
  go_wp2
  go_ret
  exact ⟨rfl, Below.drewN' HB.out nq⟩
/-- How many hits there are ahead of a place. -/
def hcn (L : List (List Nat)) (m : Nat) (d : List Nat) (i : Nat) : Nat := ((List.range i).flatMap (htA L m d)).length
theorem hcn_succ (L : List (List Nat)) (m : Nat) (d : List Nat) (i : Nat) : hcn L m d (i + 1) = hcn L m d i + if (d.drop i).take m ∈ L then 1 else 0 := by
  unfold hcn
  rw [List.range_succ, List.flatMap_append, List.length_append]
  congr 1
  simp only [List.flatMap_cons, List.flatMap_nil, List.append_nil]
  unfold htA
  split <;> rfl
theorem hcn_le (L : List (List Nat)) (m : Nat) (d : List Nat) : ∀ i, hcn L m d i ≤ i
  | 0 => by simp [hcn]
  | i + 1 => by
    have := hcn_le L m d i
    rw [hcn_succ]
    split <;> omega
/-- .. or of the first words at a place. -/
def kcn (L : List (List Nat)) (x : List Nat) (k : Nat) : Nat := if x ∈ L.take k then 1 else 0
theorem kcn_succ (L : List (List Nat)) (hn : L.Nodup) (x : List Nat) (k : Nat) (hk : k < L.length) : kcn L x (k + 1) = kcn L x k + if L[k] = x then 1 else 0 := by
  unfold kcn
  rw [List.take_succ_eq_append_getElem hk]
  by_cases h : L[k] = x
  · rw [if_pos h, if_pos (by simp [h])]
    rw [if_neg]
    intro h2
    obtain ⟨j, hj, hj2⟩ := List.mem_iff_getElem.1 h2
    have hj3 : j < k := by rw [List.length_take] at hj; omega
    rw [List.getElem_take] at hj2
    have := (List.getElem_inj (h₀ := by omega) (h₁ := hk) hn).1 (hj2.trans h.symm)
    omega
  · rw [if_neg h, Nat.add_zero]
    congr 1
    simp only [List.mem_append, List.mem_singleton, eq_iff_iff]
    constructor
    · rintro (h1 | h1)
      · exact h1
      · exact absurd h1.symm h
    · exact .inl
set_option maxRecDepth 100000 in
set_option maxHeartbeats 1600000 in
theorem count_any (d : List Nat) (hdl : d.length ≤ 1073741824) (hdb : Byt d) (ws : List ByteArray) (hw0 : 0 < ws.length) (hwl : ws.length ≤ 1073741824) (m : Nat) (hm : 0 < m) (hm1 : m ≤ 1073741824) (hsz : ∀ s ∈ ws, s.size = m) (hnd : (ws.map tl).Nodup) (v u : Value) (w : World) (hv : Si .u8 v d w) (hu : St u ws w) :
    Calls Try.prog 18 #[v, u] w fun e w' => e = .returned (.int .i64 ((hts (ws.map tl) m d).length : Int)) ∧ Below w.heap.size w w' := by
  obtain ⟨od, cd, rfl, hd1, hd2, hdf⟩ := hv.form
  obtain ⟨ou, cu, rfl, hu1, hu2, huf⟩ := hu.form
  obtain ⟨bu, offu, rfl, hbu, hcu⟩ := huf hw0
  have hs0 : (txt ws 0).size = m := hsz _ (List.mem_of_getElem? (txt_get hw0))
  have HU : Hid (∀ j, j < ws.length → w.cell? ⟨bu, offu + j, none⟩ = some (.string (txt ws j))) := fun j hj => hcu j _ (txt_get hj)
  have HD : Hid (0 < d.length → ∃ b off, od = some ⟨b, off, none⟩ ∧ b < w.heap.size ∧ ∀ j, j < d.length → w.cell? ⟨b, off + j, none⟩ = some (.int .u8 ((d.getD j 0 : Nat) : Int))) := hdf
  have HLE : Hid (∀ i, hcn (ws.map tl) m d i ≤ i) := hcn_le _ _ _
  have HND : Hid _ := hnd
  have HSZ : Hid _ := hsz
  have HF : Hid ((hts (ws.map tl) m d).length = hcn (ws.map tl) m d (d.length + 1 - m)) := rfl
  have hw1 : (0 : Int) < (ws.length : Int) := by omega
  clear hv hu hdf huf hcu hnd hsz
  rw [HF.out]
  go_enter Try.func18, Try.ntmps18
  go_wp2_with fail
  go_loopw [5, 6] (fun nv iv wr => ∃ i : Nat, iv = .int .i64 (i : Int) ∧ i ≤ d.length + 1 - m ∧ nv = .int .i64 ((hcn (ws.map tl) m d i : Nat) : Int) ∧ Hid (Below w.heap.size w wr)) (fun _ iv _ => d.length + 1 - (intOf iv).toNat)
  case atStart => exact ⟨0, rfl, by omega, rfl, Below.refl _ _⟩
  case round =>
    obtain ⟨i, rfl, hi, rfl, HB⟩ := hrel
    have c0 : wr.cell? ⟨bu, offu, none⟩ = some (.string (txt ws 0)) := (World.cell?_of_block (w := w) (HB.out.block bu hbu)).trans (HU.out 0 hw0)
    obtain ⟨s, hs⟩ : ∃ s, s = i + m := ⟨_, rfl⟩
    have es : IntKind.i64.wrap ((i : Int) + (m : Int)) = (s : Int) := by rw [wi _ (by unfold I64; omega)]; omega
    have HSI : Hid (s = i + m) := hs
    obtain ⟨N0, hN0⟩ : ∃ N0, N0 = hcn (ws.map tl) m d i := ⟨_, rfl⟩
    have hN1 : N0 ≤ i := by rw [hN0]; exact HLE.out i
    rw [← hN0]
    have HN0 : Hid _ := hN0
    clear hN0
    by_cases hsd : s ≤ d.length
    · have hsd' : (s : Int) ≤ (d.length : Int) := by omega
      obtain ⟨bd, offd, rfl, hbd, hcd⟩ := HD.out (by omega)
      clear hs
      go_wp2_with fail
      go_loopw [5, 7] (fun nv kv wr => ∃ k : Nat, kv = .int .i64 (k : Int) ∧ k ≤ ws.length ∧ nv = .int .i64 ((N0 + kcn (ws.map tl) ((d.drop i).take m) k : Nat) : Int) ∧ Hid (Below w.heap.size w wr)) (fun _ kv _ => ws.length - (intOf kv).toNat)
      case atStart => exact ⟨0, rfl, by omega, by simp [kcn], HB⟩
      case round =>
        clear c0 HB
        obtain ⟨k, rfl, hk, rfl, HB⟩ := hrel
        obtain ⟨N1, hN1e⟩ : ∃ N1, N1 = N0 + kcn (ws.map tl) ((d.drop i).take m) k := ⟨_, rfl⟩
        have hN1l : N1 ≤ i + 1 := by rw [hN1e]; unfold kcn; split <;> omega
        rw [← hN1e]
        have HN1 : Hid _ := hN1e
        clear hN1e
        by_cases hkl : k < ws.length
        · have hk0 : (0 : Int) ≤ (k : Int) := by omega
          have hk1 : (k : Int) < (ws.length : Int) := by omega
          have c0 : wr.cell? ⟨bu, offu, none⟩ = some (.string (txt ws 0)) := (World.cell?_of_block (w := w) (HB.out.block bu hbu)).trans (HU.out 0 hw0)
          have ck : wr.cell? ⟨bu, offu + k, none⟩ = some (.string (txt ws k)) := (World.cell?_of_block (w := w) (HB.out.block bu hbu)).trans (HU.out k hkl)
          have cvt : ∀ n, (convert 23 9 (.slice (some ⟨bd, offd + i, none⟩) m (cd - i))).run Try.prog (wr.drewN n) = .ok (.string (bst ((d.drop i).take m))) (wr.drewN n) := fun n => conv_sub d bd offd cd i m hd1 (by unfold maxLen; omega) (by have := HSI.out; omega) (wr.drewN n) (by have := HB.out.size; show bd < wr.heap.size; omega) (fun j hj => (World.cell?_of_block (w := w) (HB.out.block bd hbd)).trans (hcd j hj))
          have ct := run_cut64 bd offd d.length cd i s (by have := HSI.out; omega) (by omega)
          rw [show s - i = m by have := HSI.out; omega] at ct
          have hkk := kcn_succ (ws.map tl) HND.out ((d.drop i).take m) k (by simpa using hkl)
          have hLk : (ws.map tl)[k]'(by simpa using hkl) = tl (txt ws k) := by rw [List.getElem_map, txt_eq hkl]
          rw [hLk] at hkk
          have hi0 : (0 : Int) ≤ (i : Int) := by omega
          have hdt : Byt ((d.drop i).take m) := fun x hx => hdb x (List.mem_of_mem_drop (List.mem_of_mem_take hx))
          by_cases hab : bst ((d.drop i).take m) = txt ws k
          · have e1 : tl (txt ws k) = (d.drop i).take m := by rw [← hab, tl_bst _ hdt]
            rw [if_pos e1] at hkk
            have HNN : Hid (N1 + 1 = N0 + kcn (ws.map tl) ((d.drop i).take m) (k + 1)) := by show _ = _; rw [hkk, HN1.out]; omega
            rw [← hab] at ck
            clear hkk hLk e1 hdt hab
            generalize bst ((d.drop i).take m) = tx at *
            generalize txt ws 0 = s0 at *
            subst hs0
            go_wp2_with fail
            go_quiet (fail)
            go_wp2
            exact ⟨⟨k + 1, by rfl, by omega, by rw [← HNN.out]; rfl, Below.drewN' HB.out nq⟩, by simp only [intOf]; omega⟩
          · have e1 : ¬ tl (txt ws k) = (d.drop i).take m := fun h => hab (tl_inj (by rw [tl_bst _ hdt, h]))
            rw [if_neg e1] at hkk
            have HNN : Hid (N1 = N0 + kcn (ws.map tl) ((d.drop i).take m) (k + 1)) := by show _ = _; rw [hkk, HN1.out]; omega
            have hab' := str_off hab
            clear hkk hLk e1 hdt hab
            generalize bst ((d.drop i).take m) = tx at *
            generalize txt ws 0 = s0 at *
            generalize txt ws k = sk' at *
            subst hs0
            go_wp2_with fail
            go_quiet (fail)
            go_wp2
            exact ⟨⟨k + 1, by rfl, by omega, by rw [← HNN.out], Below.drewN' HB.out nq⟩, by simp only [intOf]; omega⟩
        · have hk1 : ¬ ((k : Int) < (ws.length : Int)) := by omega
          have HNN : Hid (N1 = hcn (ws.map tl) m d (i + 1)) := by
            show _ = _
            have hke : k = ws.length := by omega
            rw [hcn_succ, HN1.out, HN0.out, kcn, hke]
            rw [List.take_of_length_le (by simp)]
          clear HN1 HN0
          go_wp2
          exact ⟨⟨i + 1, by rfl, by have := HSI.out; omega, by rw [← HNN.out], HB⟩, by have := HSI.out; simp only [intOf]; omega⟩
    · have hsd' : ¬ ((s : Int) ≤ (d.length : Int)) := by omega
      have HE : Hid (N0 = hcn (ws.map tl) m d (d.length + 1 - m)) := by
        show _ = _
        rw [HN0.out, show i = d.length + 1 - m by omega]
      clear HN0 hs
      generalize txt ws 0 = s0 at *
      subst hs0
      go_wp2
      go_ret
      exact ⟨by rw [← HE.out]; rfl, HB.out⟩
end Go.Proofs.Ytceaklefdahfkab
