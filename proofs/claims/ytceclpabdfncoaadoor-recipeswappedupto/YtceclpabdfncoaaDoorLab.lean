/- Labels: how they lie, how they are compared. -/
import Derived.Test.YtceclpabdfncoaaDoorSl
import Derived.Test.YtceclpabdfncoaaDoorNames
import Derived.Lib.Bytealg
import Derived.Deep.MidRow
namespace Go.Proofs.YtceclpabdfncoaaDoor
open Go.RowKit
/- Comparing. -/
def cmpH (a b : List Nat) : Nat → Int
  | 0 => 0
  | k + 1 => if a.getD k 0 < b.getD k 0 then -1 else if b.getD k 0 < a.getD k 0 then 1 else cmpH a b k
theorem cmpH_self (a : List Nat) : ∀ k, cmpH a a k = 0
  | 0 => rfl
  | k + 1 => by simp [cmpH, cmpH_self a k]
theorem cmpB_self : ∀ a : List UInt8, Lib.compareBytes a a = 0
  | [] => rfl
  | x :: r => by simp [Lib.compareBytes, UInt8.lt_irrefl, cmpB_self r]
theorem less_cmp : ∀ a b : List UInt8, Op.bytesLess a b = decide (Lib.compareBytes a b = -1)
  | [], [] => by decide
  | [], _ :: _ => by simp [Op.bytesLess, Lib.compareBytes]
  | _ :: _, [] => by simp [Op.bytesLess, Lib.compareBytes]
  | x :: a, y :: b => by
    have ih := less_cmp a b
    unfold Op.bytesLess Lib.compareBytes
    by_cases h1 : x < y
    · simp [h1]
    · by_cases h2 : y < x
      · have hne : ¬ x = y := fun h => by subst h; exact UInt8.lt_irrefl _ h2
        simp [h1, h2, hne]
      · have he : x = y := UInt8.le_antisymm (UInt8.not_lt.1 h2) (UInt8.not_lt.1 h1)
        subst he
        simp [h1, ih]
theorem gtr_cmp : ∀ a b : List UInt8, Op.bytesLess b a = decide (Lib.compareBytes a b = 1)
  | [], [] => by decide
  | [], _ :: _ => by simp [Op.bytesLess, Lib.compareBytes]
  | _ :: _, [] => by simp [Op.bytesLess, Lib.compareBytes]
  | x :: a, y :: b => by
    have ih := gtr_cmp a b
    unfold Op.bytesLess Lib.compareBytes
    by_cases h1 : x < y
    · have hne : ¬ y = x := fun h => by subst h; exact UInt8.lt_irrefl _ h1
      have h2 : ¬ y < x := fun h => UInt8.lt_irrefl _ (UInt8.lt_trans h1 h)
      simp [h1, h2, hne]
    · by_cases h2 : y < x
      · simp [h1, h2]
      · have he : x = y := UInt8.le_antisymm (UInt8.not_lt.1 h2) (UInt8.not_lt.1 h1)
        subst he
        simp [h1, ih]
theorem cmp_three : ∀ a b : List UInt8, Lib.compareBytes a b = -1 ∨ Lib.compareBytes a b = 0 ∨ Lib.compareBytes a b = 1
  | [], [] => by simp [Lib.compareBytes]
  | [], _ :: _ => by simp [Lib.compareBytes]
  | _ :: _, [] => by simp [Lib.compareBytes]
  | x :: a, y :: b => by
    unfold Lib.compareBytes
    split
    · simp
    · split
      · simp
      · exact cmp_three a b
/-- What Compare says. -/
def cmpV (h k : List Nat) (s t : ByteArray) : Int := if cmpH h k 20 ≠ 0 then cmpH h k 20 else Lib.compareBytes s.data.toList t.data.toList
/-- A label as cells. -/
def lab (h : List Nat) (s : ByteArray) : Array Value := bs h ++ #[.string s]
theorem lab_size (h : List Nat) (s : ByteArray) (hl : h.length = 20) : (lab h s).size = 21 := by simp [lab, bs_size, hl]
theorem lab_get (h : List Nat) (s : ByteArray) (hl : h.length = 20) (j : Nat) (hj : j < 20) : (lab h s)[j]? = some (.int .u8 ((h.getD j 0 : Nat) : Int)) := by
  rw [lab, Array.getElem?_append_left (by rw [bs_size]; omega), bs_get _ _ (by omega)]
theorem lab_name (h : List Nat) (s : ByteArray) (hl : h.length = 20) : (lab h s)[20]? = some (.string s) := by
  rw [lab, Array.getElem?_append_right (by rw [bs_size]; omega)]
  simp [bs_size, hl]
theorem lab_part (h : List Nat) (s : ByteArray) (hl : h.length = 20) : (lab h s).extract 0 20 = bs h := by
  apply Array.ext_getElem?
  intro j
  rw [Array.getElem?_extract]
  by_cases hj : j < 20
  · rw [if_pos (by rw [lab_size h s hl]; omega), Nat.zero_add, lab_get h s hl j hj, bs_get _ _ (by omega)]
  · rw [if_neg (by rw [lab_size h s hl]; omega), Array.getElem?_eq_none (by rw [bs_size]; omega)]
theorem size23 : (Tryd.prog.info? 27).map (·.size) = some 20 := by kernel_rfl
theorem size25 : (Tryd.prog.info? 64).map (·.size) = some 21 := by kernel_rfl
theorem run_part_h (w : World) (h : List Nat) (s : ByteArray) (hl : h.length = 20) : (part 27 (lab h s) 0).run Tryd.prog w = .ok (.agg (bs h)) w := by
  have hagg : (isAgg 27).run Tryd.prog w = .ok true w := by
    unfold isAgg
    rw [Sem.run_bind, run_underlying Tryd.underlying27 w]
    simp
  have hsz : (sizeOf 27).run Tryd.prog w = .ok 20 w := by
    cases hq : Tryd.prog.info? 27 with
    | none => have := size23; simp [hq] at this
    | some i => have := size23; simp [hq] at this; simp [sizeOf, typeInfo, hq, this]
  simp [part, Sem.run_bind, hagg, lab_size h s hl, lab_part h s hl]
theorem run_part_s (w : World) (h : List Nat) (s : ByteArray) (hl : h.length = 20) : (part 9 (lab h s) 20).run Tryd.prog w = .ok (.string s) w := by
  have hagg : (isAgg 9).run Tryd.prog w = .ok false w := by
    unfold isAgg
    rw [Sem.run_bind, run_underlying Tryd.underlying9 w]
    simp
  simp [part, Sem.run_bind, hagg, lab_name h s hl]
theorem fields25 : (Tryd.prog.fieldsOf 64).toList.map (fun f => (f.name, f.type, f.offset)) = [("Hash", 27, 0), ("Name", 9, 20)] := by kernel_rfl
theorem under25 : Tryd.prog.underlying 64 = some (.struct (Tryd.prog.fieldsOf 64)) := by kernel_rfl
theorem held25 : Tryd.prog.stoodInHeld 64 = false := by kernel_rfl
theorem toList_inj {s t : ByteArray} : s.toList = t.toList ↔ s = t := by
  rw [ByteArray.toList_eq, ByteArray.toList_eq]
  obtain ⟨⟨x⟩⟩ := s
  obtain ⟨⟨y⟩⟩ := t
  simp
theorem run_fields (w : World) (fs : List Field) (hf : fs.map (fun f => (f.name, f.type, f.offset)) = [("Hash", 27, 0), ("Name", 9, 20)]) (h k : List Nat) (s t : ByteArray) (hl : h.length = 20) (kl : k.length = 20)
    (e0 : (Op.equalIn 9999 27 (.agg (bs h)) (.agg (bs k))).run Tryd.prog w = .ok (decide (h = k)) w) (e1 : (Op.equalIn 9999 9 (.string s) (.string t)).run Tryd.prog w = .ok (s.toList == t.toList) w) :
    (Op.eqFields 9999 (lab h s) (lab k t) fs).run Tryd.prog w = .ok (decide (h = k ∧ s = t)) w := by
  revert e0 e1
  generalize 9999 = D
  intro e0 e1
  obtain ⟨f0, r, rfl, h0, hr⟩ := List.map_eq_cons_iff.1 hf
  obtain ⟨f1, r2, rfl, h1, hr2⟩ := List.map_eq_cons_iff.1 hr
  obtain rfl := List.map_eq_nil_iff.1 hr2
  have n0 : f0.name = "Hash" := congrArg (·.1) h0
  have t0 : f0.type = 27 := congrArg (·.2.1) h0
  have o0 : f0.offset = 0 := congrArg (·.2.2) h0
  have n1 : f1.name = "Name" := congrArg (·.1) h1
  have t1 : f1.type = 9 := congrArg (·.2.1) h1
  have o1 : f1.offset = 20 := congrArg (·.2.2) h1
  have m0 : f0.name ≠ "_" := by rw [n0]; decide
  have m1 : f1.name ≠ "_" := by rw [n1]; decide
  rw [Op.eqFields, if_pos m0, t0, o0, Sem.run_bind, run_part_h w h s hl, Result.andThen_ok, Sem.run_bind, run_part_h w k t kl, Result.andThen_ok, Sem.run_bind, e0, Result.andThen_ok]
  by_cases hh : h = k
  · rw [decide_eq_true hh]
    simp only [Bool.not_true, Bool.false_eq_true, if_false]
    rw [Op.eqFields, if_pos m1, t1, o1, Sem.run_bind, run_part_s w h s hl, Result.andThen_ok, Sem.run_bind, run_part_s w k t kl, Result.andThen_ok, Sem.run_bind, e1, Result.andThen_ok]
    by_cases hs : s = t
    · simp [hh, hs, Op.eqFields]
    · have : ¬ s.toList = t.toList := fun h => hs (toList_inj.1 h)
      simp [hs, this]
  · rw [decide_eq_false hh]
    simp [hh]
theorem eq23 (w : World) (h k : List Nat) (hl : h.length = 20) (kl : k.length = 20) : (Op.equalIn 9999 27 (.agg (bs h)) (.agg (bs k))).run Tryd.prog w = .ok (decide (h = k)) w :=
  run_equalIn_bs (P := Tryd.prog) w 9997 Tryd.underlying27 Tryd.underlying5 size5 h k hl kl
theorem eq9 (w : World) (s t : ByteArray) : (Op.equalIn 9999 9 (.string s) (.string t)).run Tryd.prog w = .ok (s.toList == t.toList) w :=
  run_equalIn_string (P := Tryd.prog) w 9998 9 s t Tryd.underlying9
set_option maxRecDepth 100000 in
theorem eqS (w : World) (h k : List Nat) (s t : ByteArray) : (Op.equalIn 10000 64 (.agg (lab h s)) (.agg (lab k t))).run Tryd.prog w = (Op.eqFields 9999 (lab h s) (lab k t) (Tryd.prog.fieldsOf 64).toList).run Tryd.prog w :=
  run_equalIn_struct w 9999 64 _ _ under25 held25
theorem run_eq25 (w : World) (h k : List Nat) (s t : ByteArray) (hl : h.length = 20) (kl : k.length = 20) : (Op.equalIn 10000 64 (.agg (lab h s)) (.agg (lab k t))).run Tryd.prog w = .ok (decide (h = k ∧ s = t)) w := by
  rw [eqS w h k s t]
  exact run_fields w _ fields25 h k s t hl kl (eq23 w h k hl kl) (eq9 w s t)
end Go.Proofs.YtceclpabdfncoaaDoor
