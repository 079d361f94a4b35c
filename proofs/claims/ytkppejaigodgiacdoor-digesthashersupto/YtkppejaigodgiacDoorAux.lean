/- The statements' own helpers: padded, bytes, turned. -/
import Derived.Test.YtkppejaigodgiacDoorSl
namespace Go.Proofs.YtkppejaigodgiacDoor
open Go.RowKit
def marks : List Nat := [195, 60, 195, 60, 195, 60, 195, 60]
attribute [local go_sem ↓] toApp
set_option maxHeartbeats 1000000 in
theorem padded_any (l : List Nat) (hl : l.length ≤ 1048576) (v : Value) (w : World) (hv : Byl v l w) :
    Calls Tryd.prog 5 #[v] w fun e w' => ∃ x, e = .returned x ∧ Below w.heap.size w w' ∧ w'.ownsRow w.heap.size 5 1 x (l.length + 8) (bs (l ++ marks)).toList := by
  obtain ⟨v1, w1, hr1, ho1, hg1⟩ := run_append_byl w w.heap.size 0 22 (.slice none 0 0) v [] l (World.ownsRow_nil _ _ _ _) hv (by omega) (Nat.le_refl _)
  rw [List.nil_append, Nat.zero_add] at ho1
  have bel1 : Below w.heap.size w w1 := below_grown (Below.refl _ w) hg1 (Nat.le_refl _) (fun g hg => by cases hg)
  have hz1 := bel1.size
  have hy0 : Byl (.slice (some ⟨w1.heap.size, 0, none⟩) 8 8) marks (w1.alloc (.cells (bs marks) 5)) := byl_row (l := marks) (heap_alloc_new w1 (.cells (bs marks) 5)) (by decide)
  obtain ⟨v2, w2, hr2, ho2, hg2⟩ := run_append_byl (w1.alloc (.cells (bs marks) 5)) w.heap.size l.length 22 v1 _ l marks (ho1.alloc _) hy0 (by simp [marks]; omega) (by simp; omega)
  have bel2 : Below w.heap.size w w2 := below_grown (bel1.alloc (by omega) _) hg2 (by simp; omega) (fun g hg => by have := (ho1.lt g hg).1; omega)
  have HO : Hid (w2.ownsRow w.heap.size 5 1 v2 (l.length + 8) (bs (l ++ marks)).toList) := ho2
  have hr2' : (appR 22 #[v1, .slice (some ⟨w1.heap.size, 0, none⟩) 8 8]).run Tryd.prog (w1.alloc (.cells #[.int .u8 195, .int .u8 60, .int .u8 195, .int .u8 60, .int .u8 195, .int .u8 60, .int .u8 195, .int .u8 60] 5)) = .ok v2 w2 := hr2
  clear ho1 ho2 hg1 hg2 hr2 hy0
  go_enter Tryd.func5, Tryd.ntmps5
  go_wp2
  go_ret
  exact ⟨_, rfl, bel2, HO.out⟩
theorem take_eq_succ {a b : List Nat} {k : Nat} (h : a.take k = b.take k) (ha : k < a.length) (hb : k < b.length) (he : a.getD k 0 = b.getD k 0) : a.take (k + 1) = b.take (k + 1) := by
  rw [List.take_succ_eq_append_getElem ha, List.take_succ_eq_append_getElem hb, h]
  simp only [List.getD, List.getElem?_eq_getElem ha, List.getElem?_eq_getElem hb, Option.getD_some] at he
  rw [he]
set_option maxHeartbeats 1000000 in
theorem bytes_any (a b : List Nat) (hal : a.length ≤ 1099511627776) (v u : Value) (w : World) (hv : Byl v a w) (hu : Byl u b w) :
    Calls Tryd.prog 8 #[v, u] w fun e w' => e = .returned (.bool (decide (a = b))) ∧ Below w.heap.size w w' := by
  obtain ⟨o, c, rfl, _, _, ho⟩ := hv.form
  obtain ⟨q, d, rfl, _, _, hq⟩ := hu.form
  by_cases hl : a.length = b.length
  · have hl' : (a.length : Int) = (b.length : Int) := by omega
    go_enter Tryd.func8, Tryd.ntmps8
    go_wp2_with fail
    go_loopw [5] (fun i wr => ∃ k : Nat, i = .int .i64 (k : Int) ∧ k ≤ a.length ∧ Hid (a.take k = b.take k) ∧ Below w.heap.size w wr) (fun i _ => a.length - (intOf i).toNat)
    case atStart => exact ⟨0, rfl, by omega, rfl, Below.refl _ w⟩
    case round =>
      obtain ⟨k, rfl, hk, hE, hbl⟩ := hrel
      by_cases hlt : k < a.length
      · obtain ⟨b1, o1, rfl, hb1, hc1⟩ := ho (by omega)
        obtain ⟨b2, o2, rfl, hb2, hc2⟩ := hq (by omega)
        have cx : wr.cell? ⟨b1, o1 + k, none⟩ = some (.int .u8 ((a.getD k 0 : Nat) : Int)) := (World.cell?_of_block (w := w) (hbl.block b1 hb1)).trans (hc1 k hlt)
        have cy : wr.cell? ⟨b2, o2 + k, none⟩ = some (.int .u8 ((b.getD k 0 : Nat) : Int)) := (World.cell?_of_block (w := w) (hbl.block b2 hb2)).trans (hc2 k (by omega))
        obtain ⟨x, hx⟩ : ∃ x, x = a.getD k 0 := ⟨_, rfl⟩
        obtain ⟨y, hy⟩ : ∃ y, y = b.getD k 0 := ⟨_, rfl⟩
        have HX : Hid (x = a.getD k 0) := hx
        have HY : Hid (y = b.getD k 0) := hy
        rw [← hx] at cx
        rw [← hy] at cy
        clear hx hy
        have hk0 : (0 : Int) ≤ (k : Int) := by omega
        have hk1 : (k : Int) < (a.length : Int) := by omega
        have hk2 : (k : Int) < (b.length : Int) := by omega
        by_cases hxy : x = y
        · subst hxy
          go_wp2
          go_quiet (fail)
          go_wp2
          go_roundw
          case rel => exact ⟨k + 1, by go_num, by omega, take_eq_succ hE.out hlt (by omega) (HX.out.symm.trans HY.out), Below.drewN' hbl _⟩
          case measure => simp [intOf]; omega
        · have hxy' : ¬ ((x : Int) = (y : Int)) := by omega
          have hne : ¬ a = b := fun h => hxy (by rw [HX.out, HY.out, h])
          go_wp2
          go_quiet (fail)
          go_wp2
          go_ret
          exact ⟨by rw [decide_eq_false hne]; rfl, Below.drewN' hbl _⟩
      · have hk1 : ¬ ((k : Int) < (a.length : Int)) := by omega
        have hke : k = a.length := by omega
        subst hke
        have hab : a = b := by
          have := hE.out
          rw [List.take_of_length_le (Nat.le_refl _), List.take_of_length_le (by omega)] at this
          exact this
        go_wp2
        go_ret
        exact ⟨rfl, hbl⟩
  · have hl' : ¬ (a.length : Int) = (b.length : Int) := by omega
    have hne : ¬ a = b := fun h => hl (by rw [h])
    go_enter Tryd.func8, Tryd.ntmps8
    go_wp2
    go_ret
    exact ⟨by rw [decide_eq_false hne]; rfl, Below.refl _ w⟩
theorem not_u8 (x : Nat) (hx : x < 256) : bits BinOp.xor IntKind.u8 (if IntKind.u8.signed = true then -1 else IntKind.u8.max) (x : Int) = ((255 - x : Nat) : Int) := by
  show bits BinOp.xor IntKind.u8 255 (x : Int) = _
  rw [show (255 : Int) = ((255 : Nat) : Int) from rfl, u8_xor_nat 255 x (by decide) hx]
  congr 1
  have : ∀ y : Fin 256, 255 ^^^ y.val = 255 - y.val := by decide +kernel
  exact this ⟨x, hx⟩
/-- The first bytes of a block. -/
def Fst (g : Nat) (l : List Nat) (w : World) : Prop := ∃ cur : Array Value, w.heap[g]? = some (.cells cur 5 (0, 0)) ∧ ∀ j, j < l.length → cur[j]? = some (.int .u8 ((l.getD j 0 : Nat) : Int))
theorem Fst.byl {g c : Nat} {l : List Nat} {w : World} (h : Fst g l w) (hc : l.length ≤ c) (hm : c ≤ maxLen) : Byl (.slice (some ⟨g, 0, none⟩) l.length c) l w := by
  obtain ⟨cur, h1, h2⟩ := h
  exact .inr ⟨g, 0, c, rfl, hc, hm, (Array.getElem?_eq_some_iff.1 h1).1, fun j hj => by rw [Nat.zero_add, cell_of_row w _ _ _ _ _ h1]; exact h2 j hj⟩
theorem Fst.keep {g : Nat} {l : List Nat} {w w' : World} (h : Fst g l w) (hb : w'.heap[g]? = w.heap[g]?) : Fst g l w' := by
  obtain ⟨cur, h1, h2⟩ := h
  exact ⟨cur, hb.trans h1, h2⟩
theorem fst_own {w : World} {base n : Nat} {v : Value} {l : List Nat} (h : w.ownsRow base 5 1 v n (bs l).toList) (hn : 0 < n) : ∃ g c, v = .slice (some ⟨g, 0, none⟩) n c ∧ base ≤ g ∧ g < w.heap.size ∧ n ≤ c ∧ c ≤ maxLen ∧ Fst g l w := by
  obtain ⟨hl, ⟨_, h0⟩ | ⟨g, cap, cur, hv, hb, hg, hnc, hcm, hcs, htk⟩⟩ := h
  · omega
  · have hl0 : n = l.length := by simpa [bs] using hl.symm
    refine ⟨g, cap, hv, hb, (Array.getElem?_eq_some_iff.1 hg).1, hnc, hcm, cur, hg, fun j hj => ?_⟩
    have h1 : cur.toList[j]? = (bs l).toList[j]? := by rw [← htk, List.getElem?_take, if_pos (by omega)]
    rw [← Array.getElem?_toList, h1, Array.getElem?_toList, bs_get _ _ hj]
theorem Fst.take {g n : Nat} {l : List Nat} {w : World} (h : Fst g l w) : Fst g (l.take n) w := by
  obtain ⟨cur, h1, h2⟩ := h
  refine ⟨cur, h1, fun j hj => ?_⟩
  have hj2 : j < n ∧ j < l.length := by rw [List.length_take] at hj; omega
  rw [h2 j hj2.2]
  simp [List.getD, hj2.1]
set_option maxHeartbeats 1000000 in
theorem turned_any (l : List Nat) (hlb : Byt l) (g c : Nat) (hl : l.length ≤ 1099511627776) (w : World) (hrow : Hid (Fst g l w)) :
    Calls Tryd.prog 9 #[.slice (some ⟨g, 0, none⟩) l.length c] w fun e w' => e = .returned (.tuple #[]) ∧ Hid (Fst g (l.map (fun x => 255 - x)) w') ∧ Touch g w w' := by
  obtain ⟨n, hn⟩ : ∃ n, n = l.length := ⟨_, rfl⟩
  rw [← hn]
  have HN : Hid (n = l.length) := hn
  have hnl : n ≤ 1099511627776 := by omega
  obtain ⟨cur0, hrow0, hcur0⟩ := hrow.out
  have HR : Hid (w.heap[g]? = some (.cells cur0 5 (0, 0))) := hrow0
  have HC : Hid (∀ j, j < n → cur0[j]? = some (.int .u8 ((l.getD j 0 : Nat) : Int))) := by rw [hn]; exact hcur0
  clear hn hrow0 hcur0
  go_enter Tryd.func9, Tryd.ntmps9
  go_wp2_with fail
  go_loopw [2] (fun i wr => ∃ k : Nat, ∃ cur : Array Value, i = .int .i64 (k : Int) ∧ k ≤ n ∧ Hid (wr.heap[g]? = some (.cells cur 5 (0, 0))) ∧ Hid (∀ j, j < n → cur[j]? = some (.int .u8 (((if j < k then 255 - l.getD j 0 else l.getD j 0) : Nat) : Int))) ∧ Touch g w wr) (fun i _ => n - (intOf i).toNat)
  case atStart => exact ⟨0, cur0, rfl, by omega, HR, fun j hj => by rw [HC.out j hj, if_neg (by omega)], Touch.refl _ w⟩
  case round =>
    obtain ⟨k, cur, rfl, hk, hr, hcur, htc⟩ := hrel
    by_cases hlt : k < n
    · have hk0 : (0 : Int) ≤ (k : Int) := by omega
      have hk1 : (k : Int) < (n : Int) := by omega
      obtain ⟨x, hx⟩ : ∃ x, x = l.getD k 0 := ⟨_, rfl⟩
      have hx256 : x < 256 := by rw [hx]; exact getT hlb _
      have cx : wr.cell? ⟨g, k, none⟩ = some (.int .u8 (x : Int)) := by
        rw [cell_of_row wr _ _ _ _ _ hr.out, hcur.out k hlt, if_neg (by omega), hx]
      have fz : wr.frozen? ⟨g, k, none⟩ = false := frozen_of_row wr _ _ _ _ hr.out
      have hnx := not_u8 x hx256
      have hks : k < cur.size := by
        have := hcur.out k hlt
        exact (Array.getElem?_eq_some_iff.1 this).1
      have hr2 : Hid ((wr.setCell ⟨g, k, none⟩ (.int .u8 ((255 - x : Nat) : Int))).heap[g]? = some (.cells (cur.setIfInBounds k (.int .u8 ((255 - x : Nat) : Int))) 5 (0, 0))) := heap_setCell_same _ _ _ _ _ _ hr.out
      have hc2 : Hid (∀ j, j < n → (cur.setIfInBounds k (.int .u8 ((255 - x : Nat) : Int)))[j]? = some (.int .u8 (((if j < k + 1 then 255 - l.getD j 0 else l.getD j 0) : Nat) : Int))) := by
        intro j hj
        by_cases he : j = k
        · subst he
          rw [Array.getElem?_setIfInBounds_self_of_lt hks, if_pos (by omega), ← hx]
        · rw [Array.getElem?_setIfInBounds_ne (Ne.symm he), hcur.out j hj]
          by_cases h1 : j < k
          · rw [if_pos h1, if_pos (by omega)]
          · rw [if_neg h1, if_neg (by omega)]
      have htc2 : Touch g w (wr.setCell ⟨g, k, none⟩ (.int .u8 ((255 - x : Nat) : Int))) := htc.setCell _
      clear hx
      go_wp2
      go_roundw
      case rel => exact ⟨k + 1, _, by go_num, by omega, hr2, hc2, htc2⟩
      case measure => simp [intOf]; omega
    · have hk1 : ¬ ((k : Int) < (n : Int)) := by omega
      have hke : k = n := by omega
      subst hke
      have hF : Hid (Fst g (l.map (fun x => 255 - x)) wr) := by
        refine ⟨cur, hr.out, fun j hj => ?_⟩
        rw [List.length_map] at hj
        rw [hcur.out j (by rw [HN.out]; exact hj), if_pos (by rw [HN.out]; exact hj)]
        simp [List.getD, hj]
      go_wp2
      go_end0
      exact ⟨rfl, hF, htc⟩
end Go.Proofs.YtkppejaigodgiacDoor
