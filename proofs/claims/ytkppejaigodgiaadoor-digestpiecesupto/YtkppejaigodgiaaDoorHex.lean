import Derived.Test.YtkppejaigodgiaaDoorParts
import Derived.Deep.RegionHeld3
import Derived.Deep.AppendLies
import Derived.Laws.BytesArg
namespace Go.Proofs.YtkppejaigodgiaaDoor
open Go.RowKit
theorem getD_lt {l : List Nat} (h : Byt l) (i : Nat) : l.getD i 0 < 256 := by
  by_cases hi : i < l.length
  · have : l.getD i 0 = l[i] := by simp [List.getD, hi]
    rw [this]; exact h _ (List.getElem_mem hi)
  · simp [List.getD, hi]
theorem info5 : (Tryd.prog.info? 5).map (fun i => (i.zero, i.size, i.bytes)) = some (some (.int .u8 0), 1, 1) := by kernel_rfl
def digA : ByteArray := ⟨#[48, 49, 50, 51, 52, 53, 54, 55, 56, 57, 97, 98, 99, 100, 101, 102]⟩
def dig (x : Nat) : Nat := (digA.get! x).toNat
def hexL : List Nat → List Nat
  | [] => []
  | x :: r => dig (x / 16) :: dig (x % 16) :: hexL r
theorem hexL_len : ∀ l, (hexL l).length = 2 * l.length
  | [] => rfl
  | x :: r => by simp [hexL, hexL_len r]; omega
theorem hexL_snoc (x : Nat) : ∀ l, hexL (l ++ [x]) = hexL l ++ [dig (x / 16), dig (x % 16)]
  | [] => rfl
  | y :: r => by simp [hexL, hexL_snoc x r]
theorem hexL_take (s : List Nat) (k : Nat) (h : k < s.length) : hexL (s.take (k + 1)) = hexL (s.take k) ++ [dig (s.getD k 0 / 16), dig (s.getD k 0 % 16)] := by
  rw [List.take_succ_eq_append_getElem h, hexL_snoc]
  simp [List.getD, h]
theorem bs_toList (l : List Nat) : (bs l).toList = l.map (fun (x : Nat) => Value.int .u8 (x : Int)) := by simp [bs]
theorem dig_at (i : Int) (n : Nat) (hin : i = (n : Int)) (h : i.toNat < digA.size) : (digA[i.toNat]'h).toNat = dig n := by
  subst hin
  simp only [Int.toNat_natCast] at h ⊢
  unfold dig
  rw [← Go.get_at digA n h]
  rfl
theorem below_grown {B : Nat} {a x y : World} {row : Option Nat} (h : Below B a x) (hg : x.grownBy y row) (hB : B ≤ x.heap.size) (hr : ∀ g, row = some g → B ≤ g) : Below B a y :=
  ⟨hg.os.trans h.os, hg.tape.trans h.tape, hg.output.trans h.output, Nat.le_trans h.size hg.size, fun j hj => (hg.block j (by omega) (fun he => by have := hr j he.symm; omega)).trans (h.block j hj)⟩
set_option maxRecDepth 100000 in
set_option maxHeartbeats 3200000 in
theorem hex_any (s : List Nat) (hl : s.length = 32) (hb : Byt s) (w : World) :
    Calls Tryd.prog 14 #[.agg (bs s)] w fun e w' => e = .returned (.string (strOfNums ((hexL s).map (fun (x : Nat) => (x : Int))))) ∧ Below w.heap.size w w' := by
  obtain ⟨i0, hi0, hz0, hz1, hz2⟩ := info_parts info5
  go_enter Tryd.func14, Tryd.ntmps14
  go_wp2_with fail
  go_loopw [3, 4] (fun ov i wr => ∃ k : Nat, i = .int .i64 (k : Int) ∧ k ≤ 32 ∧ Hid (wr.ownsRow (w.heap.size + 1) 5 1 ov (2 * k) (bs (hexL (s.take k))).toList) ∧ Hid (wr.heap[w.heap.size]? = some (.cells (bs s) 28 (0, 0))) ∧ Below w.heap.size w wr) (fun _ i _ => 32 - (intOf i).toNat)
  case atStart =>
    refine ⟨0, rfl, by omega, World.ownsRow_nil _ _ _ _, heap_alloc_new _ _, (Below.refl _ w).alloc (Nat.le_refl _) _⟩
  case round =>
    obtain ⟨k, rfl, hk, hown, hrow, hbl⟩ := hrel
    by_cases hlt : k < 32
    · obtain ⟨x, hx⟩ : ∃ x, x = s.getD k 0 := ⟨_, rfl⟩
      have hx256 : x < 256 := by rw [hx]; exact getD_lt hb _
      have cx : wr.cell? ⟨w.heap.size, k, none⟩ = some (.int .u8 (x : Int)) := by rw [cell_of_row wr _ _ _ _ _ hrow.out, bs_get _ _ (by omega), hx]
      have hk0 : (0 : Int) ≤ (k : Int) := by omega
      have hk1 : (k : Int) < 32 := by omega
      have HX : Hid (x = s.getD k 0) := hx
      have hsz : w.heap.size < wr.heap.size := (Array.getElem?_eq_some_iff.1 hrow.out).1
      clear hx
      have hA0 : (0 : Int) ≤ (x : Int) / 16 := by omega
      have hA1 : (x : Int) / 16 < 16 := by omega
      have hA2 : (x : Int) / 16 % 256 < 16 := by omega
      have hA3 : (0 : Int) ≤ (x : Int) / 16 % 256 := by omega
      have hand : bits BinOp.and IntKind.u8 (x : Int) 15 = ((x % 16 : Nat) : Int) := by
        rw [show (15 : Int) = ((15 : Nat) : Int) from rfl, u8_and_nat x 15 hx256 (by decide), Nat.and_two_pow_sub_one_eq_mod x 4]
      have hB0 : (0 : Int) ≤ ((x % 16 : Nat) : Int) := by omega
      have hB1 : ((x % 16 : Nat) : Int) < 16 := by omega
      go_wp2_with fail
      have hmx : 2 * k + 2 ≤ maxLen := by unfold maxLen; omega
      have hby : (2 * k + 2) * 1 ≤ 140737488355328 := by omega
      have hne : u3.ownBlock ≠ some w.heap.size := by
        intro h
        have := (hown.out.lt _ h).1
        omega
      go_region_held3 (fun w' => w'.cell? ⟨w.heap.size, k, none⟩ = some (.int .u8 (x : Int)))
        (first
          | go_keep
          | (rw [hgrow.cell_far _ (by simp; omega) (Ne.symm hne)]; assumption))
        ((refine step_append_lies _ (by rfl) _ _ _ (by rfl) (w.heap.size + 1) 5 i0 _ 1 1 Tryd.underlying26 hi0 hz0 hz1 hz2 rfl (by omega) u3 (2 * k) _ (by rfl) ((hown.out.alloc _).drew)
            ⟨wr.heap.size, 0, none⟩ 2 2 _ (by rfl) (by rfl) (World.news_of_block (t := 5) (fr := (0, 0)) (heap_alloc_new wr _)) (by simp [Value.oneCell'])
            (by omega) hmx hby (by simp; omega) (wr.heap.size + 1) (by simp) ?_; intro gg cap w1 hown1 hgrow hat hlt2))
      all_goals
        have e1 := dig_at ((x : Int) / 16) (x / 16) (by omega) (by show _ < 16; omega)
        have e2 := dig_at ((x : Int) % 16) (x % 16) (by omega) (by show _ < 16; omega)
        have hnl : (bs (hexL (s.take (k + 1)))).toList = (bs (hexL (s.take k))).toList ++ #[Value.int IntKind.u8 ((digA[((x : Int) / 16).toNat]'(by show _ < 16; omega)).toNat : Int), Value.int IntKind.u8 ((digA[((x : Int) % 16).toNat]'(by show _ < 16; omega)).toNat : Int)].toList := by
          rw [e1, e2, hexL_take s k (by omega), ← HX.out]
          simp [bs]
        have hownF : Hid (w1.ownsRow (w.heap.size + 1) 5 1 (Value.slice (some ⟨gg, 0, none⟩) (2 * k + 2) cap) (2 * (k + 1)) (bs (hexL (s.take (k + 1)))).toList) := by
          show World.ownsRow _ _ _ _ _ _ _
          rw [hnl]
          exact hown1
        have hrow1 : Hid (w1.heap[w.heap.size]? = some (.cells (bs s) 28 (0, 0))) := (hgrow.block _ (by simp; omega) (Ne.symm hne)).trans ((heap_alloc_old _ _ (h := hsz)).trans hrow.out)
        have hbl1 : Below w.heap.size w w1 := below_grown ((hbl.alloc (by omega) _).drew) hgrow (by simp; omega) (fun g hg => by have := (hown.out.lt g hg).1; omega)
        clear hown1 hgrow hnl e1 e2 hat
        go_wp2
        go_roundw
        case rel => exact ⟨k + 1, by go_num, by omega, hownF, hrow1, hbl1⟩
        case measure => simp [intOf]; omega
    · have hk32 : k = 32 := by omega
      subst hk32
      have hcv : ∀ dst, Tryd.prog.underlying dst = some .string → (convert 26 dst u3).run Tryd.prog wr = .ok (.string (strOfNums ((hexL s).map (fun (x : Nat) => (x : Int))))) wr := by
        have ho := hown.out
        rw [List.take_of_length_le (by omega)] at ho
        obtain ⟨hl2, ⟨_, h0⟩ | ⟨g, cap, cur, hv, hb2, hg, hnc, hcm, hcs, htk⟩⟩ := ho
        · omega
        · intro dst hd
          rw [hv]
          refine run_convert_bytes_arg wr 26 5 Tryd.underlying26 Tryd.underlying5 g 0 64 cap ((hexL s).map (fun (x : Nat) => (x : Int))) (by rw [List.length_map, hexL_len, hl]) (fun i hi => ?_) dst hd
          have h1 : cur.toList[i]? = (bs (hexL s)).toList[i]? := by rw [← htk, List.getElem?_take, if_pos (by omega)]
          rw [Nat.zero_add, cell_of_row wr _ _ _ _ _ hg, ← Array.getElem?_toList, h1, Array.getElem?_toList, bs_get _ _ (by rw [hexL_len, hl]; omega)]
          have hi2 : i < (hexL s).length := by rw [hexL_len, hl]; omega
          simp [List.getD, hi2]
      have hcv9 := hcv 9 Tryd.underlying9
      clear hcv
      go_wp2
      go_ret
      exact ⟨rfl, hbl⟩
end Go.Proofs.YtkppejaigodgiaaDoor
