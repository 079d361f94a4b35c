/- Several texts in one: JuF, JuG, JuH, JuI. -/
import Derived.Test.YtfimaflglnemdaaDoorJqB
import Derived.Test.YtfimaflglnemdaaDoorJqW
import Derived.Laws.IdiomStrings
/- The journal's rows: how many bytes a file has, bodies that are too long: Device.size, tooLong, other. -/
namespace Go.Proofs.YtfimaflglnemdaaDoor
open Go.RowKit
open JM
set_option maxRecDepth 20000
namespace Dev
theorem size3 : (Tryd.prog.info? 3).map (·.size) = some 1 := by kernel_rfl
theorem fld_C1 (w : World) (p : Option Addr) (n s : Nat) : (Instr.field 88 (.agg #[.pointer p, .int .i64 (n : Int), .int .i64 (s : Int)]) 1).run Tryd.prog w = .ok (.int .i64 (n : Int)) w := by
  obtain ⟨i, hi, hs⟩ : ∃ i, Tryd.prog.info? 3 = some i ∧ i.size = 1 := by
    have := size3
    cases hq : Tryd.prog.info? 3 with
    | none => rw [hq] at this; cases this
    | some i => rw [hq] at this; exact ⟨i, rfl, by simpa using this⟩
  simp [Instr.field, Sem.run_bind, run_underlying Tryd.underlying88, sizeOf, typeInfo, hi, hs, part, isAgg, run_underlying Tryd.underlying3, asAgg]
set_option maxRecDepth 100000 in
set_option maxHeartbeats 800000 in
theorem size0 [Inhabited HoleT] {lo v : Nat} {W : World} {lv : Value} {f : Array Value} {ms : List (Array Value)} {sp : List Sp} (h : Dv lo W v lv f ms sp) (x : Sp) (hk : sp[ms.length]? = some x) (hbig : ms.length < 9223372036854775807) :
    Calls Tryd.prog 49 #[.pointer (some ⟨v, 0, none⟩), .int .i64 0] W fun e w' => e = .returned (.int .i64 (x.1.1.length : Int)) ∧ Below W.heap.size W w' := by
  have C1 := count_any h
  have C2 := at_any h ms.length x hk hbig
  clear h
  go_enter Tryd.func49, Tryd.ntmps49
  go_wp2_with fail
  refine C1.mono ?_
  rintro e w ⟨rfl, rfl⟩
  clear C1
  go_wp2_with fail
  refine C2.mono ?_
  rintro e w2 ⟨m, rfl, ⟨p0, p1, rfl, -, -⟩, hb⟩
  clear C2
  have r1 := ix_M0 w2 p0 p1 x.1.1.length x.1.2 x.2.1.length x.2.2
  have r2 := fld_C1 w2 p0 x.1.1.length x.1.2
  unfold momA
  go_wp2_with fail
  go_ret
  exact ⟨rfl, hb⟩
set_option maxRecDepth 100000 in
set_option maxHeartbeats 800000 in
theorem size1 [Inhabited HoleT] {lo v : Nat} {W : World} {lv : Value} {f : Array Value} {ms : List (Array Value)} {sp : List Sp} (h : Dv lo W v lv f ms sp) (x : Sp) (hk : sp[ms.length]? = some x) (hbig : ms.length < 9223372036854775807) :
    Calls Tryd.prog 49 #[.pointer (some ⟨v, 0, none⟩), .int .i64 1] W fun e w' => e = .returned (.int .i64 (x.2.1.length : Int)) ∧ Below W.heap.size W w' := by
  have C1 := count_any h
  have C2 := at_any h ms.length x hk hbig
  clear h
  go_enter Tryd.func49, Tryd.ntmps49
  go_wp2_with fail
  refine C1.mono ?_
  rintro e w ⟨rfl, rfl⟩
  clear C1
  go_wp2_with fail
  refine C2.mono ?_
  rintro e w2 ⟨m, rfl, ⟨p0, p1, rfl, -, -⟩, hb⟩
  clear C2
  have r1 := ix_M1 w2 p0 p1 x.1.1.length x.1.2 x.2.1.length x.2.2
  have r2 := fld_C1 w2 p1 x.2.1.length x.2.2
  unfold momA
  go_wp2_with fail
  go_ret
  exact ⟨rfl, hb⟩
end Dev
set_option maxRecDepth 100000 in
set_option maxHeartbeats 800000 in
theorem tooLong_no {u : Value} {ls : List (List Nat)} (W : World) (hu : Lr W u ls) (hg : Gl ls) :
    Calls Tryd.prog 44 #[u] W fun e w' => e = .returned (.bool false) ∧ w' = W := by
  obtain ⟨oa, cap, rfl⟩ := hu.sl
  have HU := mkHid hu
  clear hu
  have h1 : ¬ ((8192 : Int) < (ls.length : Int)) := by have := hg.n; omega
  have hG := mkHid hg
  clear hg
  go_enter Tryd.func44, Tryd.ntmps44
  go_wp2_with fail
  go_loopw [10] (fun iv wr => ∃ i : Nat, iv = .int .i64 (i : Int) ∧ i ≤ ls.length ∧ wr = W) (fun iv _ => ls.length - (intOf iv).toNat)
  case atStart => exact ⟨0, rfl, Nat.zero_le _, rfl⟩
  case round =>
    obtain ⟨i, rfl, hi, rfl⟩ := hrel
    by_cases hlt : i < ls.length
    · have hlt2 : (i : Int) < (ls.length : Int) := by omega
      have hi0 : (0 : Int) ≤ (i : Int) := by omega
      obtain ⟨oa', cap', e0, -, -, h4⟩ := HU.out
      injection e0 with e0 el ec
      clear el
      subst e0 ec
      obtain ⟨g, o, x, rfl, c1, b1⟩ := h4 i hlt
      obtain ⟨ox, cx, rfl⟩ := b1.form
      have h2 : ¬ ((2097152 : Int) < (ls[i].length : Int)) := by have := (hG.out.b ls[i] (List.getElem_mem hlt)).1; omega
      clear h4 b1
      go_wp2_with fail
      exact ⟨⟨i + 1, by simp, by omega, trivial⟩, by simp only [intOf]; omega⟩
    · have hlt2 : ¬ (i : Int) < (ls.length : Int) := by omega
      go_wp2_with fail
      go_ret
      exact ⟨rfl, rfl⟩
set_option maxRecDepth 100000 in
theorem other_any (n : Int) (h0 : 0 ≤ n) (h1 : n ≤ 1) (W : World) : Calls Tryd.prog 50 #[.int .i64 n] W fun e w' => e = .returned (.int .i64 (1 - n)) ∧ w' = W := by
  go_enter Tryd.func50, Tryd.ntmps50
  go_wp2_with fail
  go_ret
  exact ⟨rfl, rfl⟩
end Go.Proofs.YtfimaflglnemdaaDoor

/- The journal's rows: trim, where there is nothing to cut and where there is. -/
namespace Go.Proofs.YtfimaflglnemdaaDoor
open Go.RowKit
open JM
set_option maxRecDepth 20000
namespace Dev
set_option maxRecDepth 100000 in
theorem trim0_no [Inhabited HoleT] {lo v : Nat} {W : World} {lv : Value} {f : Array Value} {ms : List (Array Value)} {sp : List Sp} (h : Dv lo W v lv f ms sp) (x : Sp) (hk : sp[ms.length]? = some x) (hbig : ms.length < 1000000) (n : Nat) (hn : x.1.1.length ≤ n) :
    Calls Tryd.prog 64 #[.pointer (some ⟨v, 0, none⟩), .int .i64 0, .int .i64 (n : Int)] W fun e w' => e = .returned (.tuple #[]) ∧ Below W.heap.size W w' := by
  have C := size0 h x hk (by omega)
  have h1 : ¬ ((n : Int) < (x.1.1.length : Int)) := by omega
  clear h
  go_enter Tryd.func64, Tryd.ntmps64
  go_wp2_with fail
  refine C.mono ?_
  rintro e w ⟨rfl, hb⟩
  clear C
  go_wp2_with fail
  first | go_end0 | refine bodyPost_ret (results_none rfl _ _ _) rfl ?_
  exact ⟨rfl, hb⟩
set_option maxRecDepth 100000 in
theorem trim1_no [Inhabited HoleT] {lo v : Nat} {W : World} {lv : Value} {f : Array Value} {ms : List (Array Value)} {sp : List Sp} (h : Dv lo W v lv f ms sp) (x : Sp) (hk : sp[ms.length]? = some x) (hbig : ms.length < 1000000) (n : Nat) (hn : x.2.1.length ≤ n) :
    Calls Tryd.prog 64 #[.pointer (some ⟨v, 0, none⟩), .int .i64 1, .int .i64 (n : Int)] W fun e w' => e = .returned (.tuple #[]) ∧ Below W.heap.size W w' := by
  have C := size1 h x hk (by omega)
  have h1 : ¬ ((n : Int) < (x.2.1.length : Int)) := by omega
  clear h
  go_enter Tryd.func64, Tryd.ntmps64
  go_wp2_with fail
  refine C.mono ?_
  rintro e w ⟨rfl, hb⟩
  clear C
  go_wp2_with fail
  first | go_end0 | refine bodyPost_ret (results_none rfl _ _ _) rfl ?_
  exact ⟨rfl, hb⟩
set_option maxRecDepth 100000 in
theorem trim0_cut [Inhabited HoleT] {lo v : Nat} {W : World} {lv : Value} {f : Array Value} {ms : List (Array Value)} {sp : List Sp} (h : Dv lo W v lv f ms sp) (hlo : lo ≤ W.heap.size) (x : Sp) (hk : sp[ms.length]? = some x) (hbig : ms.length < 1000000) (n : Nat) (hn : n < x.1.1.length) :
    Calls Tryd.prog 64 #[.pointer (some ⟨v, 0, none⟩), .int .i64 0, .int .i64 (n : Int)] W fun e w' => e = .returned (.tuple #[]) ∧ ∃ w, Below W.heap.size W w ∧ DoP lo w v lv f ms sp ((x.1.1.take n, min x.1.2 n), x.2) (.returned (.int .i64 0)) w' := by
  have C := size0 h x hk (by omega)
  have h1 : (n : Int) < (x.1.1.length : Int) := by omega
  have H := mkHid h
  clear h
  go_enter Tryd.func64, Tryd.ntmps64
  go_wp2_with fail
  refine C.mono ?_
  rintro e w ⟨rfl, hb⟩
  clear C
  have C2 := Cut0 (H.out.below hb) (Nat.le_trans hlo hb.size) x hk hbig n (Nat.le_of_lt hn)
  go_wp2_with fail
  refine C2.mono ?_
  rintro e w2 hd
  obtain ⟨rfl, hd⟩ := hd
  go_wp2_with fail
  first | go_end0 | refine bodyPost_ret (results_none rfl _ _ _) rfl ?_
  exact ⟨rfl, w, hb, rfl, hd⟩
set_option maxRecDepth 100000 in
theorem trim1_cut [Inhabited HoleT] {lo v : Nat} {W : World} {lv : Value} {f : Array Value} {ms : List (Array Value)} {sp : List Sp} (h : Dv lo W v lv f ms sp) (hlo : lo ≤ W.heap.size) (x : Sp) (hk : sp[ms.length]? = some x) (hbig : ms.length < 1000000) (n : Nat) (hn : n < x.2.1.length) :
    Calls Tryd.prog 64 #[.pointer (some ⟨v, 0, none⟩), .int .i64 1, .int .i64 (n : Int)] W fun e w' => e = .returned (.tuple #[]) ∧ ∃ w, Below W.heap.size W w ∧ DoP lo w v lv f ms sp (x.1, (x.2.1.take n, min x.2.2 n)) (.returned (.int .i64 0)) w' := by
  have C := size1 h x hk (by omega)
  have h1 : (n : Int) < (x.2.1.length : Int) := by omega
  have H := mkHid h
  clear h
  go_enter Tryd.func64, Tryd.ntmps64
  go_wp2_with fail
  refine C.mono ?_
  rintro e w ⟨rfl, hb⟩
  clear C
  have C2 := Cut1 (H.out.below hb) (Nat.le_trans hlo hb.size) x hk hbig n (Nat.le_of_lt hn)
  go_wp2_with fail
  refine C2.mono ?_
  rintro e w2 hd
  obtain ⟨rfl, hd⟩ := hd
  go_wp2_with fail
  first | go_end0 | refine bodyPost_ret (results_none rfl _ _ _) rfl ?_
  exact ⟨rfl, w, hb, rfl, hd⟩
end Dev
end Go.Proofs.YtfimaflglnemdaaDoor

/- The journal's rows: the law's copied and size. -/
namespace Go.Proofs.YtfimaflglnemdaaDoor
open Go.RowKit
open JM
set_option maxRecDepth 20000
theorem Ob.of_new (W : World) (l : List Nat) (hb : Byt l) (hl : l.length ≤ LIM) : Ob W.heap.size (W.alloc (.cells (bs l).toArray 5)) (.slice (some ⟨W.heap.size, 0, none⟩) l.length l.length) l :=
  ⟨⟨by rw [bs_len]; omega, .inr ⟨W.heap.size, l.length, _, rfl, Nat.le_refl _, heap_alloc_new _ _, Nat.le_refl _, by unfold LIM at hl; unfold maxLen; omega, by simp [bs_len], by simp [← bs_len]⟩⟩, hb⟩
def cpB (ty : Nat) (vs : Array Value) : Sem Value := Builtin.copy_ #[23, 23] ty vs
theorem toCpB (ty : Nat) (vs : Array Value) : Builtin.copy_ #[23, 23] ty vs = cpB ty vs := rfl
theorem run_cpN (W : World) (u : Value) (l : List Nat) (hl : Bl W u l) : (cpB 3 #[.slice (some ⟨W.heap.size, 0, none⟩) l.length l.length, u]).run Tryd.prog (W.alloc (.cells (madeCells #[.int .u8 0] l.length) 5)) = .ok (goInt l.length) (W.alloc (.cells (bs l).toArray 5)) := by
  have hms : (madeCells #[.int .u8 0] l.length).size = l.length := by simp [madeCells]
  obtain ⟨oa, cap, rfl, h1, h2, h3, h4⟩ := hl
  by_cases h0 : l.length = 0
  · have := run_copy_none (P := Tryd.prog) (W.alloc (.cells (madeCells #[.int .u8 0] l.length) 5)) 23 23 3 5 (some ⟨W.heap.size, 0, none⟩) oa l.length l.length l.length cap Tryd.underlying23 size5 (by rw [h0]; rfl)
    unfold cpB
    rw [this]
    obtain rfl : l = [] := List.length_eq_zero_iff.1 h0
    have e : madeCells #[Value.int .u8 0] ([] : List Nat).length = #[] := Array.size_eq_zero_iff.1 hms
    rw [e]
    rfl
  · obtain ⟨u0, hu0⟩ : ∃ u0, (bs l)[0]? = some u0 := ⟨_, List.getElem?_eq_getElem (by rw [bs_len]; omega)⟩
    obtain ⟨g, o, rfl, -, -⟩ := h4 0 u0 hu0
    have := run_copy_row (P := Tryd.prog) (W.alloc (.cells (madeCells #[.int .u8 0] l.length) 5)) 23 23 3 5 W.heap.size 0 l.length l.length ⟨g, o, none⟩ l.length cap _ 5 (bs l) Tryd.underlying23 size5 (heap_alloc_new _ _) (by rw [bs_len]; exact (Nat.min_self _).symm) (fun j v hv => by
      obtain ⟨g', o', e1, e2, e3⟩ := h4 j v hv
      cases e1
      rw [Addr.add_mid]
      exact cell_below ((Below.refl _ W).alloc (Nat.le_refl _) _) e3) (by rw [bs_len, hms]; omega) (bs_one l)
    unfold cpB
    rw [this, World.setRow_alloc_new, bs_len, Nat.zero_add, List.take_zero, List.nil_append, List.drop_of_length_le (by rw [Array.length_toList, hms]; exact Nat.le_refl _), List.append_nil]
section
attribute [local go_sem ↓] toCpB
set_option maxRecDepth 100000 in
theorem copL_any (W : World) (u : Value) (l : List Nat) (hl : Bl W u l) (hlim : l.length ≤ LIM) : Calls Tryd.prog 48 #[u] W fun e w' => e = .returned (.slice (some ⟨W.heap.size, 0, none⟩) l.length l.length) ∧ w' = W.alloc (.cells (bs l).toArray 5) := by
  have hmk := run_make_row' (P := Tryd.prog) 23 5 (.int .u8 0) 1 Tryd.underlying23 info5 rfl .i64 .i64 l.length (by unfold LIM at hlim; omega) (by unfold LIM at hlim; omega)
  have hcp := run_cpN W u l hl
  obtain ⟨oa, cap, hu, -⟩ := hl
  subst hu
  clear hlim
  go_enter Tryd.func48, Tryd.ntmps48
  go_wp2
  go_ret
  exact ⟨rfl, rfl⟩
end
def mkS (l : List Nat) : ByteArray := ⟨(l.map UInt8.ofNat).toArray⟩
def cvS (v : Value) : Sem Value := convert 23 9 v
theorem toCvS (v : Value) : convert 23 9 v = cvS v := rfl
theorem cv_bl {W : World} {v : Value} {l : List Nat} (h : Bl W v l) : (cvS v).run Tryd.prog W = .ok (.string (mkS l)) W := by
  obtain ⟨oa, cap, rfl, h1, h2, h3, h4⟩ := h
  cases oa with
  | none =>
    have hl : l = [] := by
      cases l with
      | nil => rfl
      | cons a t =>
        obtain ⟨g, o, e, -⟩ := h4 0 (.int .u8 (a : Int)) (by simp [bs])
        cases e
    subst hl
    unfold cvS
    rw [List.length_nil, run_convert_bytes_string (P := Tryd.prog) W 23 9 5 none 0 cap Tryd.underlying23 Tryd.underlying5 Tryd.underlying9]
    rfl
  | some a =>
    have := run_convert_bytes_back (P := Tryd.prog) W 23 9 5 a cap (l.map UInt8.ofNat) Tryd.underlying23 Tryd.underlying5 Tryd.underlying9 (fun j hj => by
      have hj2 : j < l.length := by simpa using hj
      have hx : l[j] < 256 := h3 _ (List.getElem_mem hj2)
      obtain ⟨g, o, e, -, hc⟩ := h4 j (.int .u8 (l[j] : Int)) (by simp [bs, hj2])
      cases e
      rw [Addr.add_mid, hc]
      simp [Nat.mod_eq_of_lt hx])
    rw [List.length_map] at this
    exact this

set_option maxRecDepth 100000 in
set_option maxHeartbeats 800000 in
theorem law_size (b : Bool) {u : Value} {ls : List (List Nat)} (W : World) (hu : Lr W u ls) (hl : sizes ls < 1000000000000) :
    Calls Tryd.prog 62 #[u, .bool b] W fun e w' => e = .returned (.int .i64 (((if b then 52 else 26) + sizes ls : Nat) : Int)) ∧ w' = W := by
  obtain ⟨oa, cap, rfl⟩ := hu.sl
  have HU := mkHid hu
  clear hu
  obtain ⟨z, hz, hz2⟩ : ∃ z : Nat, (if b then 52 else 26) = z ∧ z ≤ 52 := ⟨_, rfl, by cases b <;> decide⟩
  rw [hz]
  have hn : ls.length < 1000000000000 := by have := len_le ls; omega
  have hz' : (if b then (52 : Int) else 26) = (z : Int) := by cases b <;> simp at hz <;> subst hz <;> rfl
  clear hz
  go_enter Tryd.func62, Tryd.ntmps62
  cases b with
  | _ =>
  simp at hz'
  go_wp2_with fail
  go_loopw [6, 5] (fun iv sv wr => ∃ i : Nat, iv = .int .i64 (i : Int) ∧ sv = .int .i64 ((z + sizes (ls.take i) : Nat) : Int) ∧ i ≤ ls.length ∧ wr = W) (fun iv _ _ => ls.length - (intOf iv).toNat)
  case atStart => exact ⟨0, rfl, by simp [sizes, ← hz'], Nat.zero_le _, rfl⟩
  case round =>
    obtain ⟨i, rfl, rfl, hi, rfl⟩ := hrel
    by_cases hlt : i < ls.length
    · have hlt2 : (i : Int) < (ls.length : Int) := by omega
      have hi0 : (0 : Int) ≤ (i : Int) := by omega
      obtain ⟨oa', cap', e0, -, -, h4⟩ := HU.out
      injection e0 with e0 el ec
      clear el
      subst e0 ec
      obtain ⟨g, o, x, rfl, c1, b1⟩ := h4 i hlt
      obtain ⟨ox, cx, rfl⟩ := b1.form
      have hs := len_sizes hlt
      have e9 : sizes (ls.take (i + 1)) = sizes (ls.take i) + (22 + ls[i].length) := by rw [take_last hlt, sizes_snoc]
      clear h4 b1
      go_wp2_with fail
      refine ⟨⟨i + 1, by simp, ?_, by omega, trivial⟩, by simp only [intOf]; omega⟩
      rw [e9]
      congr 1
      omega
    · have hlt2 : ¬ (i : Int) < (ls.length : Int) := by omega
      have : i = ls.length := by omega
      subst this
      rw [List.take_length]
      go_wp2_with fail
      go_ret
      exact ⟨rfl, rfl⟩
end Go.Proofs.YtfimaflglnemdaaDoor

/- The journal's rows: the law's short: at most 20 lists, each of at most 2000 bytes, as lists of one's own. -/
namespace Go.Proofs.YtfimaflglnemdaaDoor
open Go.RowKit
open JM
set_option maxRecDepth 20000
def sho (ls : List (List Nat)) : List (List Nat) := (ls.take 20).map (·.take 2000)
theorem sho_take {ls : List (List Nat)} {i : Nat} (h : i < ls.length) : (ls.take (i + 1)).map (·.take 2000) = (ls.take i).map (·.take 2000) ++ [ls[i].take 2000] := by
  rw [take_last h, List.map_append]
  rfl
attribute [local go_sem ↓] toApL toSlB in
set_option maxRecDepth 100000 in
set_option maxHeartbeats 1600000 in
theorem short_any {u : Value} {ls : List (List Nat)} (W : World) (hu : Lr W u ls) (hlim : ∀ x ∈ ls, x.length ≤ LIM) :
    Calls Tryd.prog 22 #[u] W fun e w' => ∃ v, e = .returned v ∧ Ll W.heap.size w' v (sho ls) ∧ Below W.heap.size W w' := by
  obtain ⟨oa, cap, rfl⟩ := hu.sl
  have HU := mkHid (And.intro hu hlim)
  clear hu hlim
  go_enter Tryd.func22, Tryd.ntmps22
  go_wp2_with fail
  go_loopw [4, 3] (fun iv ov wr => ∃ (i : Nat) (a : Option Addr) (c : Nat), iv = .int .i64 (i : Int) ∧ ov = .slice a i c ∧ i ≤ ls.length ∧ i ≤ 20 ∧ Hid (Ll W.heap.size wr ov ((ls.take i).map (·.take 2000)) ∧ Below W.heap.size W wr)) (fun iv _ _ => ls.length - (intOf iv).toNat)
  case atStart => exact ⟨0, none, 0, rfl, rfl, Nat.zero_le _, by omega, by simpa using Ll.nil _ _, Below.refl _ _⟩
  case round =>
    obtain ⟨i, a, c, rfl, rfl, hi, hi2, HI⟩ := hrel
    by_cases hlt : i < ls.length
    · have hlt2 : (i : Int) < (ls.length : Int) := by omega
      have hi0 : (0 : Int) ≤ (i : Int) := by omega
      by_cases h20 : i < 20
      · have h202 : (i : Int) < 20 := by omega
        obtain ⟨oa', cap', e0, -, -, h4⟩ := HU.out.1
        injection e0 with e0 el ec
        clear el
        subst e0 ec
        obtain ⟨g, o, x, rfl, c1, b1⟩ := h4 i hlt
        obtain ⟨ox, cx, rfl⟩ := b1.form
        have c2 := cell_below HI.out.2 c1
        have b2 := b1.below HI.out.2
        have hxl := HU.out.2 ls[i] (List.getElem_mem hlt)
        obtain ⟨ox', n', cx', hb3, hn3⟩ : ∃ ox' n' cx', Bl wr (.slice ox' n' cx') (ls[i].take 2000) ∧ (ls[i].take 2000).length = n' ∧ ((¬ (2000 : Int) < (ls[i].length : Int) ∧ ox' = ox ∧ n' = ls[i].length ∧ cx' = cx) ∨ ((2000 : Int) < (ls[i].length : Int) ∧ ∀ W', (slB (.slice ox ls[i].length cx) none (some (.int .i64 2000)) none).run Tryd.prog W' = .ok (.slice ox' n' cx') W')) := by
          by_cases hq : 2000 < ls[i].length
          · obtain ⟨o', r1, r2⟩ := cut_h b2 2000 (by omega)
            exact ⟨o', 2000, cx, r2, by rw [List.length_take]; omega, .inr ⟨by omega, r1⟩⟩
          · have : ls[i].take 2000 = ls[i] := List.take_of_length_le (by omega)
            rw [this]
            exact ⟨ox, ls[i].length, cx, b2, rfl, .inl ⟨by omega, rfl, rfl, rfl⟩⟩
        obtain ⟨hn3, hcs⟩ := hn3
        have C := copL_any wr _ _ hb3 (by rw [List.length_take]; omega)
        rw [hn3] at C
        have oN : Ob wr.heap.size (wr.alloc (.cells (bs (ls[i].take 2000)).toArray 5)) (.slice (some ⟨wr.heap.size, 0, none⟩) n' n') (ls[i].take 2000) := by
          have := Ob.of_new wr (ls[i].take 2000) (by obtain ⟨-, -, -, -, -, h, -⟩ := hb3.cells; exact h) (by rw [List.length_take]; omega)
          rwa [hn3] at this
        obtain ⟨W2, hW2⟩ : ∃ W2, wr.alloc (.cells (bs (ls[i].take 2000)).toArray 5) = W2 := ⟨_, rfl⟩
        rw [hW2] at oN C
        have bW2 : Below wr.heap.size wr W2 := by rw [← hW2]; exact (Below.refl _ wr).alloc (Nat.le_refl _) _
        have hLl : Ll W.heap.size W2 (.slice a i c) ((ls.take i).map (·.take 2000)) := HI.out.1.keep (stay_below bW2)
        have b02 : Below W.heap.size W W2 := HI.out.2.trans (bW2.mono HI.out.2.size)
        have hlen : ((ls.take i).map (·.take 2000)).length = i := by rw [List.length_map, List.length_take]; omega
        obtain ⟨a3, c3, w3, r3, l3, g3⟩ := hLl.add b02.size (oN.mono HI.out.2.size) (by omega)
        rw [hlen] at r3 l3
        rw [← sho_take hlt] at l3
        have b3 : Below W.heap.size W w3 := g3.below b02 (Nat.le_refl _)
        have HF := mkHid (And.intro l3 b3)
        clear h4 b1 b2 hb3 oN bW2 hLl b02 l3 g3 b3 hW2 hn3 c1 hlen hxl
        rcases hcs with ⟨q1, rfl, rfl, rfl⟩ | ⟨q1, q2⟩
        · go_wp2_with fail
          refine C.mono ?_
          rintro e w ⟨rfl, rfl⟩
          clear C
          go_wp2_with fail
          exact ⟨⟨i + 1, a3, c3, by simp, rfl, by omega, by omega, HF.out⟩, by simp only [intOf]; omega⟩
        · go_wp2_with fail
          refine C.mono ?_
          rintro e w ⟨rfl, rfl⟩
          clear C
          go_wp2_with fail
          exact ⟨⟨i + 1, a3, c3, by simp, rfl, by omega, by omega, HF.out⟩, by simp only [intOf]; omega⟩
      · have h202 : ¬ (i : Int) < 20 := by omega
        have : i = 20 := by omega
        subst this
        go_wp2_with fail
        go_ret
        exact ⟨_, rfl, HI.out⟩
    · have hlt2 : ¬ (i : Int) < (ls.length : Int) := by omega
      have : i = ls.length := by omega
      subst this
      go_wp2_with fail
      go_ret
      refine ⟨_, rfl, ?_, HI.out.2⟩
      have := HI.out.1
      rw [List.take_length] at this
      unfold sho
      rw [List.take_of_length_le hi2]
      exact this
end Go.Proofs.YtfimaflglnemdaaDoor
