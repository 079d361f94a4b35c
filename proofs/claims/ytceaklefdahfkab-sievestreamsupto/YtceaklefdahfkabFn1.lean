/- SieveFinds: bytes copied. -/
import Derived.Test.YtceaklefdahfkabSv11
import Derived.Laws.CopyRow
import Derived.Laws.IdiomCopy
namespace Go.Proofs.Ytceaklefdahfkab
open Go.RowKit
def mkB (l c : Value) : Sem Value := Instr.makeSlice 23 l c
theorem toMkB (l c : Value) : Instr.makeSlice 23 l c = mkB l c := rfl
set_option maxRecDepth 1000000 in
theorem run_mkB (w : World) (n : Nat) (hn : n ≤ 1099511627776) : ∃ w', (mkB (.int .i64 (n : Int)) (.int .i64 (n : Int))).run Try.prog w = .ok (.slice (some ⟨w.heap.size, 0, none⟩) n n) w' ∧ w'.heap[w.heap.size]? = some (.cells (ik .u8 (List.replicate n 0)) 5 (0, 0)) ∧ Below w.heap.size w w' ∧ w'.heap.size = w.heap.size + 1 := by
  obtain ⟨i0, hi0, hz0, hz1, hz2⟩ := info_parts info5
  have hr := run_make (P := Try.prog) w 23 5 i0 _ (by kernel_rfl) hi0 hz0 .i64 .i64 n n (by omega) (Int.le_refl _) (by rw [hz2]; omega) (by omega)
  simp only [Int.toNat_natCast] at hr
  refine ⟨_, hr, ?_, (Below.refl _ w).alloc (Nat.le_refl _) _, by simp⟩
  rw [heap_alloc_new, hz1, Nat.mul_one]
  congr 2
  apply Array.ext'
  have : (Value.int IntKind.u8 0).cells = #[Value.int .u8 0] := rfl
  rw [this, toList_madeCells_one]
  simp [ik]
/-- Bytes laid over others from a place on. -/
def ovr (l e : List Nat) (o : Nat) : List Nat := l.take o ++ e ++ l.drop (o + e.length)
theorem ovr_len (l e : List Nat) (o : Nat) (h : o + e.length ≤ l.length) : (ovr l e o).length = l.length := by
  unfold ovr
  rw [List.length_append, List.length_append, List.length_take, List.length_drop]; omega
theorem ovr_byt {l e : List Nat} (hl : Byt l) (he : Byt e) (o : Nat) : Byt (ovr l e o) := fun x hx => by
  unfold ovr at hx
  rcases List.mem_append.1 hx with hx | hx
  · rcases List.mem_append.1 hx with hx | hx
    · exact hl x (List.mem_of_mem_take hx)
    · exact he x hx
  · exact hl x (List.mem_of_mem_drop hx)
theorem ik_ovr (l e : List Nat) (o : Nat) : ((ik .u8 l).toList.take o ++ (e.map fun (x : Nat) => Value.int .u8 (x : Int)) ++ (ik .u8 l).toList.drop (o + e.length)).toArray = ik .u8 (ovr l e o) := by
  simp [ik, ovr, List.map_drop, List.map_take]
def cpB (ty : Nat) (vs : Array Value) : Sem Value := Builtin.copy_ #[23, 23] ty vs
theorem toCpB (ty : Nat) (vs : Array Value) : Builtin.copy_ #[23, 23] ty vs = cpB ty vs := rfl
def cpS (ty : Nat) (vs : Array Value) : Sem Value := Builtin.copy_ #[23, 9] ty vs
theorem toCpS (ty : Nat) (vs : Array Value) : Builtin.copy_ #[23, 9] ty vs = cpS ty vs := rfl
theorem setRow_same {w : World} {g : Nat} {l : List Nat} {t : TypeId} (hg : w.heap[g]? = some (.cells (ik .u8 l) t (0, 0))) (o : Nat) : w.setRow g (ik .u8 (ovr l [] o)) = w := by
  have : ovr l [] o = l := by simp [ovr]
  rw [this]; exact setRow_self w g _ t _ hg
/-- Bytes copied from bytes. -/
theorem run_cpB (W : World) (ty g : Nat) (l e : List Nat) (hl : e.length = l.length) (v : Value) (hrow : W.heap[g]? = some (.cells (ik .u8 l) 5 (0, 0))) (hv : Si .u8 v e W) :
    (cpB ty #[.slice (some ⟨g, 0, none⟩) l.length l.length, v]).run Try.prog W = .ok (goInt e.length) (W.setRow g (ik .u8 e)) := by
  have he0 : ovr l e 0 = e := by simp [ovr, hl]
  rcases hv with ⟨rfl, rfl⟩ | ⟨b, off, cap, rfl, hc1, hc2, hbl, hcell⟩
  · have := setRow_same hrow 0
    rw [he0] at this
    rw [this]
    exact run_copy_nil (P := Try.prog) W 23 23 ty 5 ⟨g, 0, none⟩ _ _ Try.underlying23 (by kernel_rfl)
  · by_cases h0 : e.length = 0
    · have e0 : e = [] := List.length_eq_zero_iff.1 h0
      have := setRow_same hrow 0
      rw [← e0, he0] at this
      rw [this, h0]
      exact run_copy_none (P := Try.prog) W 23 23 ty 5 _ _ _ _ 0 cap Try.underlying23 size5 (by simp)
    have hlen : (e.map fun (x : Nat) => Value.int .u8 (x : Int)).length = e.length := by rw [List.length_map]
    have hc := run_copy_row (P := Try.prog) W 23 23 ty 5 g 0 l.length l.length ⟨b, off, none⟩ e.length cap _ 5 (e.map fun (x : Nat) => Value.int .u8 (x : Int)) Try.underlying23 size5 hrow (by rw [hlen, hl]; simp) (fun j v hj => ?_) (by rw [hlen, ik_size]; omega) (fun v hv => by obtain ⟨x, _, rfl⟩ := List.mem_map.1 hv; rfl)
    · rw [hlen] at hc
      have h2 := ik_ovr l e 0
      rw [he0] at h2
      rw [h2] at hc
      exact hc
    · have hj2 : j < e.length := by rw [← hlen]; exact (List.getElem?_eq_some_iff.1 hj).1
      have ev : v = Value.int .u8 ((e.getD j 0 : Nat) : Int) := by
        simp only [List.getElem?_map] at hj
        rw [List.getElem?_eq_getElem hj2] at hj
        simp only [Option.map_some, Option.some.injEq] at hj
        rw [← hj]
        simp [List.getD, hj2]
      rw [ev, Go.WideShapes.add_plain]
      exact hcell j hj2
/-- Bytes copied from a text. -/
theorem run_cpS (W : World) (ty g o dLen dCap : Nat) (l : List Nat) (s : ByteArray) (hrow : W.heap[g]? = some (.cells (ik .u8 l) 5 (0, 0))) (hfit : o + min s.size dLen ≤ l.length) :
    (cpS ty #[.slice (some ⟨g, o, none⟩) dLen dCap, .string s]).run Try.prog W = .ok (goInt (min s.size dLen)) (W.setRow g (ik .u8 (ovr l ((tl s).take (min s.size dLen)) o))) := by
  obtain ⟨e, he⟩ : ∃ e, e = (tl s).take (min s.size dLen) := ⟨_, rfl⟩
  have hel : e.length = min s.size dLen := by rw [he, List.length_take, tl_len]; omega
  have hlen : (e.map fun (x : Nat) => Value.int .u8 (x : Int)).length = e.length := by rw [List.length_map]
  have hst := run_storeCells_at Try.prog g o 5 (e.map fun (x : Nat) => Value.int .u8 (x : Int)) 0 _ W hrow (by rw [hlen, ik_size, hel]; simpa using hfit) (fun v hv => by obtain ⟨x, _, rfl⟩ := List.mem_map.1 hv; rfl)
  rw [hlen, Nat.add_zero, ik_ovr l e o] at hst
  have htk : List.take (min s.size dLen) (List.map (fun b : UInt8 => Value.int IntKind.u8 (b.toNat : Int)) s.data.toList) = e.map fun (x : Nat) => Value.int .u8 (x : Int) := by
    rw [he]; simp [tl, List.map_take]; rfl
  rw [← he]
  obtain ⟨i0, hi0, hz0, hz1, hz2⟩ := info_parts info5
  unfold cpS
  have hm : Nat.min s.size dLen = min s.size dLen := rfl
  simp [Builtin.copy_, run_underlying Try.underlying23, Builtin.lenOf, Builtin.firstCells, sizeOf, typeInfo, hi0, hm]
  rw [htk, hst]
  simp [Result.andThen]
  have : ((min s.size dLen : Nat) : Int) = min (s.size : Int) (dLen : Int) := by omega
  rw [this]
attribute [local go_sem ↓] toMkB toCpB
theorem copied_any (d : List Nat) (hd : d.length ≤ 1073741824) (v : Value) (w : World) (hv : Si .u8 v d w) :
    Calls Try.prog 16 #[v] w fun e w' => e = .returned (.slice (some ⟨w.heap.size, 0, none⟩) d.length d.length) ∧ w'.heap[w.heap.size]? = some (.cells (ik .u8 d) 5 (0, 0)) ∧ Below w.heap.size w w' ∧ w'.heap.size = w.heap.size + 1 := by
  obtain ⟨W1, r1, R1, B1, z1⟩ := run_mkB w d.length (by omega)
  have rc := fun ty => run_cpB W1 ty w.heap.size (List.replicate d.length 0) d (by simp) v R1 (hv.below B1)
  simp only [List.length_replicate] at rc
  obtain ⟨o, c, hvo, _⟩ := hv.form
  have H : Hid ((W1.setRow w.heap.size (ik .u8 d)).heap[w.heap.size]? = some (.cells (ik .u8 d) 5 (0, 0)) ∧ Below w.heap.size w (W1.setRow w.heap.size (ik .u8 d)) ∧ (W1.setRow w.heap.size (ik .u8 d)).heap.size = w.heap.size + 1) := ⟨setRow_heap _ _ _ _ _ _ R1, below_setRow B1 (Nat.le_refl _) _, by simp [z1]⟩
  subst hvo
  clear R1 B1 z1 hv
  go_enter Try.func16, Try.ntmps16
  go_wp2
  go_ret
  exact ⟨rfl, H.out⟩
end Go.Proofs.Ytceaklefdahfkab
