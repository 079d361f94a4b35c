/- LabelWays' walk. -/
import Derived.Test.YtmfkhpledgnipaaDoorSpl
import Derived.Test.YtmfkhpledgnipaaDoorRight
namespace Go.Proofs.YtmfkhpledgnipaaDoor
open Go.RowKit
theorem i64_and3 (n : Int) : bits .and .i64 n 3 = n % 4 := by
  have h1 : (BitVec.ofInt 64 3).toNat = 2 ^ 2 - 1 := by decide
  have key : (BitVec.ofInt 64 n &&& BitVec.ofInt 64 3).toNat = (n % ((2 ^ 64 : Nat) : Int)).toNat % 2 ^ 2 := by
    rw [BitVec.toNat_and, BitVec.toNat_ofInt, h1, Nat.and_two_pow_sub_one_eq_mod]
  show IntKind.i64.wrap ((BitVec.ofInt 64 n &&& BitVec.ofInt 64 3).toNat : Nat) = _
  rw [key, IntKind.wrap_i64]
  omega
def btN (n : Int) : List UInt8 := match (n % 4).toNat with | 0 => [] | 1 => [46] | 2 => [46, 46] | _ => [97, 0]
theorem btN_bad (n : Int) : Bad (btN n) := by
  unfold btN
  have : (n % 4).toNat < 4 := by omega
  generalize (n % 4).toNat = m at this
  match m, this with
  | 0, _ => exact ⟨by decide, by unfold noB; decide, by decide⟩
  | 1, _ => exact ⟨by decide, by unfold noB; decide, by decide⟩
  | 2, _ => exact ⟨by decide, by unfold noB; decide, by decide⟩
  | 3, _ => exact ⟨by decide, by unfold noB; decide, by decide⟩
/-- The four texts, kept shut. -/
def idx38 (v i : Value) : Sem Value := Instr.index 38 v i
theorem toIdx38 (v i : Value) : Instr.index 38 v i = idx38 v i := rfl
theorem run_idx38 (n : Int) (W : World) : (idx38 (.agg #[.string ⟨#[]⟩, .string ⟨#[46]⟩, .string ⟨#[46, 46]⟩, .string ⟨#[97, 0]⟩]) (.int .i64 (n % 4))).run Tryd.prog W = .ok (.string (ofL (btN n))) W := by
  unfold btN idx38
  have h4 : (n % 4).toNat < 4 := by omega
  have h5 : n % 4 = (((n % 4).toNat : Nat) : Int) := by omega
  generalize (n % 4).toNat = m at h4 h5
  rw [h5]
  match m, h4 with
  | 0, _ => simp [go_sem]; rfl
  | 1, _ => simp [go_sem]; rfl
  | 2, _ => simp [go_sem]; rfl
  | 3, _ => simp [go_sem]; rfl
attribute [local go_sem ↓] to25s to25l toEq toBuild toIdx38
attribute [local go_sem] zero25
set_option maxRecDepth 100000 in
set_option maxHeartbeats 3200000 in
theorem ways_bad (h : List Nat) (hb : Byt h) (hl : h.length = 20) (nm : ByteArray) (hok : ¬ okN nm = 0) (st : Value) (bad : Int) (w : World) (ht : Tx w) :
    Calls Tryd.prog 4 #[.agg (lab h nm), st, .int .i64 bad] w fun e w' => e = .returned (.bool true) ∧ Below w.heap.size w w' := by
  have bel0 : Below w.heap.size w (w.alloc (.cells (lab h nm) 25)) := (Below.refl _ w).alloc (Nat.le_refl _) _
  have l0 := run_loadR25 (w.alloc (.cells (lab h nm) 25)) w.heap.size h nm (heap_alloc_new _ _) hl
  have HT : Hid (∀ W, Below w.heap.size w W → Tx W) := fun W hW => ht.below hW ht.sz
  have CP := fun W (hW : Tx W) => printC_any h hb hl nm W hW
  have CR : Hid (∀ W, Calls Tryd.prog 9 #[.string nm] W fun e w' => e = .returned (.bool (decide (okN nm = 0))) ∧ w' = W) := fun W => right_any nm W
  have HZ0 : Hid ((w.alloc (.cells (lab h nm) 25)).heap.size = w.heap.size + 1) := by show _ = _; simp
  have HB0 : Hid (Below w.heap.size w (w.alloc (.cells (lab h nm) 25))) := bel0
  clear bel0 ht
  obtain ⟨E, hE⟩ : ∃ E, E = okN nm := ⟨_, rfl⟩
  have hE0 : ((E : Int) != 0) = true := by simp; omega
  have P1 : Hid (∀ W, Tx W → Calls Tryd.prog 7 #[.agg (lab h nm)] W fun e w' => e = .returned (.tuple #[.string ⟨#[]⟩, .int .i64 (E : Int)]) ∧ Below W.heap.size W w') := fun W hW => by
    have := CP W hW
    unfold printV at this
    rw [if_neg hok, ← hE] at this
    exact this
  have CR' : Hid (∀ W, Calls Tryd.prog 9 #[.string nm] W fun e w' => e = .returned (.bool false) ∧ w' = W) := fun W => by
    have := CR.out W
    rw [decide_eq_false hok] at this
    exact this
  clear CP CR hok hE
  go_enter Tryd.func4, Tryd.ntmps4
  go_wp2_with fail
  refine (P1.out _ (HT.out _ HB0.out)).mono ?_
  rintro e W1 ⟨rfl, b1⟩
  have HR1 : Hid (W1.heap[w.heap.size]? = some (.cells (lab h nm) 25 (0, 0))) := (b1.block _ (by rw [HZ0.out]; omega)).trans (heap_alloc_new _ _)
  have bel1 : Below w.heap.size w W1 := HB0.out.trans (b1.mono (by rw [HZ0.out]; omega))
  have c1 : W1.cell? ⟨w.heap.size, 20, none⟩ = some (.string nm) := by rw [cell_of_row _ _ _ _ _ _ HR1.out, lab_name h nm hl]
  clear b1 l0
  go_wp2_with fail
  refine (CR'.out _).mono ?_
  rintro e w' ⟨rfl, hw'⟩
  have hw2 := hw'.symm
  subst hw2
  go_wp2_with fail
  refine (works_any _ (HT.out _ bel1)).mono ?_
  rintro e W3 ⟨rfl, b3⟩
  have bel3 : Below w.heap.size w W3 := bel1.trans (b3.mono bel1.size)
  go_wp2_with fail
  go_ret
  exact ⟨rfl, bel3⟩
/-- A text of the list, in Int's own words. -/
theorem idx_byt (t : ByteArray) (k : Nat) (h : k < t.size) : t.data.toList[k]? = some (t[k]'h) := by
  rw [List.getElem?_eq_getElem (by simpa using h)]
  rfl
theorem ok_step (t : List UInt8) (k : Nat) (b : UInt8) (h : t[k]? = some b) : (okH t && okB (t.take (k + 1))) = ((okH t && okB (t.take k)) && (b != 0 && b != 47)) := by
  rw [List.take_add_one, h]
  unfold okB
  simp [Bool.and_assoc]
theorem all_take (l : List UInt8) (k : Nat) (b : UInt8) (h : l[k]? = some b) : okB (l.take (k + 1)) = (okB (l.take k) && (b != 0 && b != 47)) := by
  rw [List.take_add_one, h]
  unfold okB
  simp
end Go.Proofs.YtmfkhpledgnipaaDoor
