/- Base 16: the code's and the document's. -/
import Derived.Test.YtceclpabdfncoaaDoorSl
namespace Go.Proofs.YtceclpabdfncoaaDoor
open Go.RowKit
def digA : ByteArray := ⟨#[48, 49, 50, 51, 52, 53, 54, 55, 56, 57, 97, 98, 99, 100, 101, 102]⟩
theorem dig_at (i : Int) (n : Nat) (hin : i = (n : Int)) (h : i.toNat < digA.size) : (digA[i.toNat]'h).toNat = g16 n := by
  subst hin
  simp only [Int.toNat_natCast] at h ⊢
  have : ∀ y : Fin 16, (digA.get! y.val).toNat = g16 y.val := by decide +kernel
  rw [← Go.get_at digA n h]
  exact this ⟨n, h⟩
attribute [local go_sem ↓] toMk
set_option maxRecDepth 100000 in
set_option maxHeartbeats 3200000 in
theorem hexC_any (s : List Nat) (hb : Byt s) (hl : s.length ≤ 1099511627776) (v : Value) (w : World) (hv : Byl v s w) (ht : Tx w) :
    Calls Tryd.prog 17 #[v] w fun e w' => e = .returned (txt (hexL s)) ∧ Below w.heap.size w w' := by
  obtain ⟨i0, hi0, hz0, hz1, hz2⟩ := info_parts info5
  obtain ⟨o, c, rfl, _, _, ho⟩ := hv.form
  obtain ⟨w0, hmk, hown0, bel0⟩ := run_mk0 w (2 * s.length) (by omega)
  have hmk' : (mkR (.int .i64 0) (.int .i64 (2 * (s.length : Int)))).run Tryd.prog w = .ok (.slice (some ⟨w.heap.size, 0, none⟩) 0 (2 * s.length)) w0 := by
    rw [← hmk]; congr 3
  have hw2 : IntKind.i64.wrap (2 * (s.length : Int)) = 2 * (s.length : Int) := by rw [IntKind.wrap_i64]; omega
  have HO0 : Hid (w0.ownsRow w.heap.size 5 1 (.slice (some ⟨w.heap.size, 0, none⟩) 0 (2 * s.length)) 0 (bs []).toList) := hown0
  clear hmk hown0
  have hsz := ht.sz
  go_enter Tryd.func17, Tryd.ntmps17
  go_wp2_with fail
  go_loopw [3, 12] (fun ov i wr => ∃ k : Nat, i = .int .i64 (k : Int) ∧ k ≤ s.length ∧ Hid (wr.ownsRow w.heap.size 5 1 ov (2 * k) (bs (hexL (s.take k))).toList) ∧ Below w.heap.size w wr) (fun _ i _ => s.length - (intOf i).toNat)
  case atStart => exact ⟨0, rfl, by omega, HO0, bel0⟩
  case round =>
    obtain ⟨k, rfl, hk, hown, hbl⟩ := hrel
    by_cases hlt : k < s.length
    · obtain ⟨b1, o1, rfl, hb1, hc1⟩ := ho (by omega)
      obtain ⟨x, hx⟩ : ∃ x, x = s.getD k 0 := ⟨_, rfl⟩
      have hx256 : x < 256 := by rw [hx]; exact getT hb _
      have cx : wr.cell? ⟨b1, o1 + k, none⟩ = some (.int .u8 (x : Int)) := by rw [hx]; exact (World.cell?_of_block (w := w) (hbl.block b1 hb1)).trans (hc1 k hlt)
      have hk0 : (0 : Int) ≤ (k : Int) := by omega
      have hk1 : (k : Int) < (s.length : Int) := by omega
      have HX : Hid (x = s.getD k 0) := hx
      have hbz := hbl.size
      clear hx
      obtain ⟨p, hp⟩ : ∃ p, p = x / 16 := ⟨_, rfl⟩
      obtain ⟨q, hq⟩ : ∃ q, q = x % 16 := ⟨_, rfl⟩
      have hp16 : p < 16 := by omega
      have hq16 : q < 16 := by omega
      have hA : (x : Int) / 16 = (p : Int) := by omega
      have hand : bits BinOp.and IntKind.u8 (x : Int) 15 = (q : Int) := by
        rw [show (15 : Int) = ((15 : Nat) : Int) from rfl, u8_and_nat x 15 hx256 (by decide), Nat.and_two_pow_sub_one_eq_mod x 4, hq]
      have hA0 : (0 : Int) ≤ (p : Int) := by omega
      have hA1 : (p : Int) < 16 := by omega
      have hA2 : IntKind.u8.wrap (p : Int) = (p : Int) := wraps_u8 _ (by omega) (by omega)
      have hB0 : (0 : Int) ≤ (q : Int) := by omega
      have hB1 : (q : Int) < 16 := by omega
      have HP : Hid (p = x / 16) := hp
      have HQ : Hid (q = x % 16) := hq
      clear hp hq
      have htr : Tx wr := ht.below hbl hsz
      have dp := htr.a p hp16
      have dq := htr.a q hq16
      have h0 : (1 : Nat) < wr.heap.size := by omega
      go_wp2_with fail
      have hmx : 2 * k + 2 ≤ maxLen := by unfold maxLen; omega
      have hby : (2 * k + 2) * 1 ≤ 140737488355328 := by omega
      have hne : u3.ownBlock ≠ some 1 := by
        intro h
        have := (hown.out.lt _ h).1
        omega
      go_region_held3 (fun w' => w'.cell? ⟨1, p, none⟩ = some (.int .u8 ((g16 p : Nat) : Int)) ∧ w'.cell? ⟨1, q, none⟩ = some (.int .u8 ((g16 q : Nat) : Int)))
        (first
          | (refine ⟨?_, ?_⟩ <;> (rw [hgrow.cell_far _ (by simp <;> omega) (Ne.symm hne)]; simp_all only [World.cell?_drew]; done))
          | (rw [hgrow.cell_far _ (by simp <;> omega) (Ne.symm hne)]; assumption)
          | go_keep)
        ((refine step_append_lies _ (by rfl) _ _ _ (by rfl) w.heap.size 5 i0 _ 1 1 Tryd.underlying23 hi0 hz0 hz1 hz2 rfl (by omega) u3 (2 * k) _ (by rfl) ((hown.out.alloc _).drew)
            ⟨wr.heap.size, 0, none⟩ 2 2 _ (by rfl) (by rfl) (World.news_of_block (t := 5) (fr := (0, 0)) (heap_alloc_new wr _)) (by simp [Value.oneCell'])
            (by omega) hmx hby (by simp; omega) (wr.heap.size + 1) (by simp) ?_; intro gg cap w1 hown1 hgrow hat hlt2))
      all_goals
        have hownF : Hid (w1.ownsRow w.heap.size 5 1 (Value.slice (some ⟨gg, 0, none⟩) (2 * k + 2) cap) (2 * (k + 1)) (bs (hexL (s.take (k + 1)))).toList) := by
          show World.ownsRow _ _ _ _ _ _ _
          rw [hexL_take s k (by omega), ← HX.out, ← HP.out, ← HQ.out, bs_app]
          exact hown1
        have hbl1 : Below w.heap.size w w1 := below_grown ((hbl.alloc (by omega) _).drew) hgrow (by simp; omega) (fun g hg => by have := (hown.out.lt g hg).1; omega)
        clear hown1 hgrow hat
        go_wp2
        go_roundw
        case rel => exact ⟨k + 1, by go_num, by omega, hownF, hbl1⟩
        case measure => simp [intOf]; omega
    · have hk1 : ¬ ((k : Int) < (s.length : Int)) := by omega
      have hke : k = s.length := by omega
      subst hke
      have ho' := hown.out
      rw [List.take_of_length_le (Nat.le_refl _)] at ho'
      have hcv := conv_own ho'
      clear ho'
      go_wp2
      go_ret
      exact ⟨rfl, hbl⟩
end Go.Proofs.YtceclpabdfncoaaDoor
