/- The law's helpers at lists as long as the form bears; Fold, both. -/
import Derived.Test.YtkppejaigodgiacDoorShParts
import Derived.Test.YtkppejaigodgiacDoorAux
import Derived.BigRegion
namespace Go.Proofs.YtkppejaigodgiacDoor.Big
open Go.RowKit
attribute [local go_sem ↓] toApp
set_option maxHeartbeats 1000000 in
theorem padded_any (l : List Nat) (hl : l.length ≤ 140737488351232) (v : Value) (w : World) (hv : Byl v l w) :
    Calls Tryd.prog 5 #[v] w fun e w' => ∃ x, e = .returned x ∧ Below w.heap.size w w' ∧ w'.ownsRow w.heap.size 5 1 x (l.length + 8) (bs (l ++ marks)).toList := by
  obtain ⟨v1, w1, hr1, ho1, hg1⟩ := run_append_byl w w.heap.size 0 22 (.slice none 0 0) v [] l (World.ownsRow_nil _ _ _ _) hv (by omega) (Nat.le_refl _)
  rw [List.nil_append, Nat.zero_add] at ho1
  have bel1 : Below w.heap.size w w1 := below_grown (Below.refl _ w) hg1 (Nat.le_refl _) (fun g hg => by cases hg)
  have hz1 := bel1.size
  have hy0 : Byl (.slice (some ⟨w1.heap.size, 0, none⟩) 8 8) marks (w1.alloc (.cells (bs marks) 5)) := byl_row (l := marks) (heap_alloc_new w1 (.cells (bs marks) 5)) (by decide)
  obtain ⟨v2, w2, hr2, ho2, hg2⟩ := run_append_byl (w1.alloc (.cells (bs marks) 5)) w.heap.size l.length 22 v1 _ l marks (ho1.alloc _) hy0 (by simp [marks]; omega) (by simp; omega)
  have bel2 : Below w.heap.size w w2 := below_grown (bel1.alloc (by omega) _) hg2 (by simp; omega) (fun g hg => by have := (ho1.lt g hg).1; omega)
  have HO : Hid (w2.ownsRow w.heap.size 5 1 v2 (l.length + 8) (bs (l ++ marks)).toList) := ho2
  have hr2' : (appR 22 #[v1, .slice (some ⟨w1.heap.size, 0, none⟩) 8 8]).run Tryd.prog (w1.alloc (.cells #[.int .u8 195, .int .u8 60, .int .u8 195, .int .u8 60, .int .u8 195, .int .u8 60, .int .u8 195, .int .u8 60] 5)) = .ok v2 w2 := hr2
  clear ho1 ho2 hg1 hg2 hr2 hy0
  go_enter Tryd.func5, Tryd.ntmps5
  go_wp2
  go_ret
  exact ⟨_, rfl, bel2, HO.out⟩
set_option maxHeartbeats 1000000 in
theorem bytes_any (a b : List Nat) (hal : a.length ≤ 140737488355328) (v u : Value) (w : World) (hv : Byl v a w) (hu : Byl u b w) :
    Calls Tryd.prog 8 #[v, u] w fun e w' => e = .returned (.bool (decide (a = b))) ∧ Below w.heap.size w w' := by
  obtain ⟨o, c, rfl, _, _, ho⟩ := hv.form
  obtain ⟨q, d, rfl, _, _, hq⟩ := hu.form
  by_cases hl : a.length = b.length
  · have hl' : (a.length : Int) = (b.length : Int) := by omega
    go_enter Tryd.func8, Tryd.ntmps8
    go_wp2_with fail
    go_loopw [5] (fun i wr => ∃ k : Nat, i = .int .i64 (k : Int) ∧ k ≤ a.length ∧ Hid (a.take k = b.take k) ∧ Below w.heap.size w wr) (fun i _ => a.length - (intOf i).toNat)
    case atStart => exact ⟨0, rfl, by omega, rfl, Below.refl _ w⟩
    case round =>
      obtain ⟨k, rfl, hk, hE, hbl⟩ := hrel
      by_cases hlt : k < a.length
      · obtain ⟨b1, o1, rfl, hb1, hc1⟩ := ho (by omega)
        obtain ⟨b2, o2, rfl, hb2, hc2⟩ := hq (by omega)
        have cx : wr.cell? ⟨b1, o1 + k, none⟩ = some (.int .u8 ((a.getD k 0 : Nat) : Int)) := (World.cell?_of_block (w := w) (hbl.block b1 hb1)).trans (hc1 k hlt)
        have cy : wr.cell? ⟨b2, o2 + k, none⟩ = some (.int .u8 ((b.getD k 0 : Nat) : Int)) := (World.cell?_of_block (w := w) (hbl.block b2 hb2)).trans (hc2 k (by omega))
        obtain ⟨x, hx⟩ : ∃ x, x = a.getD k 0 := ⟨_, rfl⟩
        obtain ⟨y, hy⟩ : ∃ y, y = b.getD k 0 := ⟨_, rfl⟩
        have HX : Hid (x = a.getD k 0) := hx
        have HY : Hid (y = b.getD k 0) := hy
        rw [← hx] at cx
        rw [← hy] at cy
        clear hx hy
        have hk0 : (0 : Int) ≤ (k : Int) := by omega
        have hk1 : (k : Int) < (a.length : Int) := by omega
        have hk2 : (k : Int) < (b.length : Int) := by omega
        by_cases hxy : x = y
        · subst hxy
          go_wp2
          go_quiet (fail)
          go_wp2
          go_roundw
          case rel => exact ⟨k + 1, by go_num, by omega, take_eq_succ hE.out hlt (by omega) (HX.out.symm.trans HY.out), Below.drewN' hbl _⟩
          case measure => simp [intOf]; omega
        · have hxy' : ¬ ((x : Int) = (y : Int)) := by omega
          have hne : ¬ a = b := fun h => hxy (by rw [HX.out, HY.out, h])
          go_wp2
          go_quiet (fail)
          go_wp2
          go_ret
          exact ⟨by rw [decide_eq_false hne]; rfl, Below.drewN' hbl _⟩
      · have hk1 : ¬ ((k : Int) < (a.length : Int)) := by omega
        have hke : k = a.length := by omega
        subst hke
        have hab : a = b := by
          have := hE.out
          rw [List.take_of_length_le (Nat.le_refl _), List.take_of_length_le (by omega)] at this
          exact this
        go_wp2
        go_ret
        exact ⟨rfl, hbl⟩
  · have hl' : ¬ (a.length : Int) = (b.length : Int) := by omega
    have hne : ¬ a = b := fun h => hl (by rw [h])
    go_enter Tryd.func8, Tryd.ntmps8
    go_wp2
    go_ret
    exact ⟨by rw [decide_eq_false hne]; rfl, Below.refl _ w⟩
set_option maxHeartbeats 1000000 in
theorem turned_any (l : List Nat) (hlb : Byt l) (g c : Nat) (hl : l.length ≤ 140737488355328) (w : World) (hrow : Hid (Fst g l w)) :
    Calls Tryd.prog 9 #[.slice (some ⟨g, 0, none⟩) l.length c] w fun e w' => e = .returned (.tuple #[]) ∧ Hid (Fst g (l.map (fun x => 255 - x)) w') ∧ Touch g w w' := by
  obtain ⟨n, hn⟩ : ∃ n, n = l.length := ⟨_, rfl⟩
  rw [← hn]
  have HN : Hid (n = l.length) := hn
  have hnl : n ≤ 140737488355328 := by omega
  obtain ⟨cur0, hrow0, hcur0⟩ := hrow.out
  have HR : Hid (w.heap[g]? = some (.cells cur0 5 (0, 0))) := hrow0
  have HC : Hid (∀ j, j < n → cur0[j]? = some (.int .u8 ((l.getD j 0 : Nat) : Int))) := by rw [hn]; exact hcur0
  clear hn hrow0 hcur0
  go_enter Tryd.func9, Tryd.ntmps9
  go_wp2_with fail
  go_loopw [2] (fun i wr => ∃ k : Nat, ∃ cur : Array Value, i = .int .i64 (k : Int) ∧ k ≤ n ∧ Hid (wr.heap[g]? = some (.cells cur 5 (0, 0))) ∧ Hid (∀ j, j < n → cur[j]? = some (.int .u8 (((if j < k then 255 - l.getD j 0 else l.getD j 0) : Nat) : Int))) ∧ Touch g w wr) (fun i _ => n - (intOf i).toNat)
  case atStart => exact ⟨0, cur0, rfl, by omega, HR, fun j hj => by rw [HC.out j hj, if_neg (by omega)], Touch.refl _ w⟩
  case round =>
    obtain ⟨k, cur, rfl, hk, hr, hcur, htc⟩ := hrel
    by_cases hlt : k < n
    · have hk0 : (0 : Int) ≤ (k : Int) := by omega
      have hk1 : (k : Int) < (n : Int) := by omega
      obtain ⟨x, hx⟩ : ∃ x, x = l.getD k 0 := ⟨_, rfl⟩
      have hx256 : x < 256 := by rw [hx]; exact getT hlb _
      have cx : wr.cell? ⟨g, k, none⟩ = some (.int .u8 (x : Int)) := by
        rw [cell_of_row wr _ _ _ _ _ hr.out, hcur.out k hlt, if_neg (by omega), hx]
      have fz : wr.frozen? ⟨g, k, none⟩ = false := frozen_of_row wr _ _ _ _ hr.out
      have hnx := not_u8 x hx256
      have hks : k < cur.size := by
        have := hcur.out k hlt
        exact (Array.getElem?_eq_some_iff.1 this).1
      have hr2 : Hid ((wr.setCell ⟨g, k, none⟩ (.int .u8 ((255 - x : Nat) : Int))).heap[g]? = some (.cells (cur.setIfInBounds k (.int .u8 ((255 - x : Nat) : Int))) 5 (0, 0))) := heap_setCell_same _ _ _ _ _ _ hr.out
      have hc2 : Hid (∀ j, j < n → (cur.setIfInBounds k (.int .u8 ((255 - x : Nat) : Int)))[j]? = some (.int .u8 (((if j < k + 1 then 255 - l.getD j 0 else l.getD j 0) : Nat) : Int))) := by
        intro j hj
        by_cases he : j = k
        · subst he
          rw [Array.getElem?_setIfInBounds_self_of_lt hks, if_pos (by omega), ← hx]
        · rw [Array.getElem?_setIfInBounds_ne (Ne.symm he), hcur.out j hj]
          by_cases h1 : j < k
          · rw [if_pos h1, if_pos (by omega)]
          · rw [if_neg h1, if_neg (by omega)]
      have htc2 : Touch g w (wr.setCell ⟨g, k, none⟩ (.int .u8 ((255 - x : Nat) : Int))) := htc.setCell _
      clear hx
      go_wp2
      go_roundw
      case rel => exact ⟨k + 1, _, by go_num, by omega, hr2, hc2, htc2⟩
      case measure => simp [intOf]; omega
    · have hk1 : ¬ ((k : Int) < (n : Int)) := by omega
      have hke : k = n := by omega
      subst hke
      have hF : Hid (Fst g (l.map (fun x => 255 - x)) wr) := by
        refine ⟨cur, hr.out, fun j hj => ?_⟩
        rw [List.length_map] at hj
        rw [hcur.out j (by rw [HN.out]; exact hj), if_pos (by rw [HN.out]; exact hj)]
        simp [List.getD, hj]
      go_wp2
      go_end0
      exact ⟨rfl, hF, htc⟩
/-- A sum folded, behind k bytes. -/
def foldk (s : List Nat) : Nat → List Nat
  | 0 => List.replicate 20 0
  | k + 1 => (foldk s k).set (k % 20) ((foldk s k).getD (k % 20) 0 ^^^ s.getD k 0)
theorem foldk_len (s : List Nat) : ∀ k, (foldk s k).length = 20
  | 0 => by simp [foldk]
  | k + 1 => by rw [foldk, List.length_set, foldk_len s k]
theorem foldk_byt (s : List Nat) (hs : Byt s) : ∀ k, Byt (foldk s k)
  | 0 => fun x hx => by have : x = 0 := List.eq_of_mem_replicate hx; omega
  | k + 1 => by
    intro x hx
    rw [foldk] at hx
    rcases List.mem_or_eq_of_mem_set hx with h' | h'
    · exact foldk_byt s hs k x h'
    · rw [h']
      exact Nat.xor_lt_two_pow (n := 8) (getT (foldk_byt s hs k) _) (getT hs _)
def fold (s : List Nat) : List Nat := foldk s 32
theorem size24 : (Tryd.prog.info? 25).map (·.size) = some 32 := by kernel_rfl
def z20 : List Nat := List.replicate 20 0
end Go.Proofs.YtkppejaigodgiacDoor.Big
