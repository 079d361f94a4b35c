/- DigestBack: what its walk wants. -/
import Derived.Test.YtkppejaigodgiabDoorApt
import Derived.Test.YtkppejaigodgiabDoorFm
import Derived.Test.YtkppejaigodgiabDoorAux
import Derived.Test.YtkppejaigodgiabDoorHexB
import Derived.Test.YtkppejaigodgiabDoorB32B
import Derived.Test.YtkppejaigodgiabDoorB64B
namespace Go.Proofs.YtkppejaigodgiabDoor
open Go.RowKit
set_option maxHeartbeats 1000000 in
theorem bytesB_any (a b : List Nat) (hal : a.length ≤ 281474976710656) (v u : Value) (w : World) (hv : Byl v a w) (hu : Byl u b w) :
    Calls Tryd.prog 18 #[v, u] w fun e w' => e = .returned (.bool (decide (a = b))) ∧ Below w.heap.size w w' := by
  obtain ⟨o, c, rfl, _, _, ho⟩ := hv.form
  obtain ⟨q, d, rfl, _, _, hq⟩ := hu.form
  by_cases hl : a.length = b.length
  · have hl' : (a.length : Int) = (b.length : Int) := by omega
    go_enter Tryd.func18, Tryd.ntmps18
    go_wp2_with fail
    go_loopw [5] (fun i wr => ∃ k : Nat, i = .int .i64 (k : Int) ∧ k ≤ a.length ∧ Hid (a.take k = b.take k) ∧ Below w.heap.size w wr) (fun i _ => a.length - (intOf i).toNat)
    case atStart => exact ⟨0, rfl, by omega, rfl, Below.refl _ w⟩
    case round =>
      obtain ⟨k, rfl, hk, hE, hbl⟩ := hrel
      by_cases hlt : k < a.length
      · obtain ⟨b1, o1, rfl, hb1, hc1⟩ := ho (by omega)
        obtain ⟨b2, o2, rfl, hb2, hc2⟩ := hq (by omega)
        have cx : wr.cell? ⟨b1, o1 + k, none⟩ = some (.int .u8 ((a.getD k 0 : Nat) : Int)) := (World.cell?_of_block (w := w) (hbl.block b1 hb1)).trans (hc1 k hlt)
        have cy : wr.cell? ⟨b2, o2 + k, none⟩ = some (.int .u8 ((b.getD k 0 : Nat) : Int)) := (World.cell?_of_block (w := w) (hbl.block b2 hb2)).trans (hc2 k (by omega))
        obtain ⟨x, hx⟩ : ∃ x, x = a.getD k 0 := ⟨_, rfl⟩
        obtain ⟨y, hy⟩ : ∃ y, y = b.getD k 0 := ⟨_, rfl⟩
        have HX : Hid (x = a.getD k 0) := hx
        have HY : Hid (y = b.getD k 0) := hy
        rw [← hx] at cx
        rw [← hy] at cy
        clear hx hy
        have hk0 : (0 : Int) ≤ (k : Int) := by omega
        have hk1 : (k : Int) < (a.length : Int) := by omega
        have hk2 : (k : Int) < (b.length : Int) := by omega
        by_cases hxy : x = y
        · subst hxy
          go_wp2
          go_quiet (fail)
          go_wp2
          go_roundw
          case rel => exact ⟨k + 1, by go_num, by omega, take_eq_succ hE.out hlt (by omega) (HX.out.symm.trans HY.out), Below.drewN' hbl _⟩
          case measure => simp [intOf]; omega
        · have hxy' : ¬ ((x : Int) = (y : Int)) := by omega
          have hne : ¬ a = b := fun h => hxy (by rw [HX.out, HY.out, h])
          go_wp2
          go_quiet (fail)
          go_wp2
          go_ret
          exact ⟨by rw [decide_eq_false hne]; rfl, Below.drewN' hbl _⟩
      · have hk1 : ¬ ((k : Int) < (a.length : Int)) := by omega
        have hke : k = a.length := by omega
        subst hke
        have hab : a = b := by
          have := hE.out
          rw [List.take_of_length_le (Nat.le_refl _), List.take_of_length_le (by omega)] at this
          exact this
        go_wp2
        go_ret
        exact ⟨rfl, hbl⟩
  · have hl' : ¬ (a.length : Int) = (b.length : Int) := by omega
    have hne : ¬ a = b := fun h => hl (by rw [h])
    go_enter Tryd.func18, Tryd.ntmps18
    go_wp2
    go_ret
    exact ⟨by rw [decide_eq_false hne]; rfl, Below.refl _ w⟩
theorem mem_idx' {D : List Nat} {c : Nat} (hD : ∀ x ∈ D, x < 256) (h : D.idxOf c < D.length) : c < 256 := by
  have e : D[D.idxOf c]'h = c := List.getElem_idxOf h
  rw [← e]
  exact hD _ (List.getElem_mem h)
theorem hexL_byt (s : List Nat) (hb : ∀ x ∈ s, x < 256) : ∀ c ∈ hexL s, c < 256 := fun c hc => mem_idx' (D := D16) (by decide) (hexL_known s hb c hc)
theorem b32L_byt (s : List Nat) : ∀ c ∈ b32L s, c < 256 := fun c hc => by
  obtain ⟨j, _, rfl⟩ := List.mem_map.1 hc
  exact mem_idx' (D := D32) (by decide) (by rw [kv_g32 ⟨_, v32_lt s _⟩]; exact v32_lt s _)
theorem b64L_byt (s : List Nat) (hb : ∀ x ∈ s, x < 256) : ∀ c ∈ b64L s, c < 256 := fun c hc => by
  obtain ⟨i1, ⟨f, hf, i2⟩, i3⟩ := dg_all _ s (Nat.le_refl _) hb
  rw [i2] at hc
  rcases List.mem_append.1 hc with h | h
  · exact mem_idx' (D := D64) (by decide) (i1 c h).1
  · have := (List.mem_replicate.1 h).2; omega
/- The number with one added. -/
theorem num_set {l : List Nat} (hl : 0 < l.length) : num (l.set 0 (l.getD 0 0 + 1)) = num l + 1 := by
  match l, hl with
  | a :: r, _ =>
    simp only [List.set_cons_zero, List.getD_cons_zero, num]
    omega
theorem num_low {l : List Nat} (hl : 0 < l.length) : num l % 32 = l.getD 0 0 % 32 := by
  match l, hl with
  | a :: r, _ =>
    simp only [List.getD_cons_zero, num]
    omega
theorem next_div (N i : Nat) (h : ¬ N % 32 = 31) (hi : 0 < i) : (N + 1) / 32 ^ i = N / 32 ^ i := by
  obtain ⟨k, rfl⟩ : ∃ k, i = k + 1 := ⟨i - 1, by omega⟩
  rw [Nat.pow_succ, Nat.mul_comm, ← Nat.div_div_eq_div_mul, ← Nat.div_div_eq_div_mul]
  congr 1
  omega
theorem b32_next {l e : List Nat} (hb : ∀ x ∈ l, x < 256) (he : ∀ x ∈ e, x < 256) (hl : 0 < l.length) (hel : e.length = l.length) (hn : num e = num l + 1) (h31 : ¬ num l % 32 = 31) :
    (b32L e).take (n32 l.length - 1) = (b32L l).take (n32 l.length - 1) ∧ (b32L l).getD (n32 l.length - 1) 0 = g32 (num l % 32) ∧ (b32L e).getD (n32 l.length - 1) 0 = g32 (num e % 32) := by
  have h1 : 0 < n32 l.length := by unfold n32; omega
  refine ⟨?_, ?_, ?_⟩
  · apply List.ext_getElem
    · rw [List.length_take, List.length_take, b32L_len, b32L_len, hel]
    · intro j h2 h3
      rw [List.length_take, b32L_len] at h3
      rw [List.getElem_take, List.getElem_take]
      simp only [b32L, List.getElem_map, List.getElem_range]
      rw [hel, v32_num l hb, v32_num e he, hn, next_div _ _ h31 (by omega)]
  · rw [b32L_get l _ (by omega), v32_num l hb, show n32 l.length - 1 - (n32 l.length - 1) = 0 by omega, Nat.pow_zero, Nat.div_one]
  · have := b32L_get e (n32 e.length - 1) (by rw [hel]; omega)
    rw [hel] at this
    rw [this, v32_num e he, show n32 l.length - 1 - (n32 l.length - 1) = 0 by omega, Nat.pow_zero, Nat.div_one]
/-- What holds at each moment: the data, the tables. -/
structure Bk (v : Value) (d : List Nat) (w W : World) : Prop where
  bel : Below w.heap.size w W
  tx : Tx W
  dat : Byl v d W
theorem Bk.below {v : Value} {d : List Nat} {w W W' : World} (h : Bk v d w W) (b : Below W.heap.size W W') : Bk v d w W' :=
  ⟨h.bel.trans (b.mono h.bel.size), h.tx.below b h.tx.sz, h.dat.below b⟩
theorem Bk.tch {v : Value} {d : List Nat} {lo hi : Nat} {w W W' : World} (h : Bk v d w W) (hv : ∀ g, v.ownBlock = some g → g < lo) (hlo : w.heap.size ≤ lo) (h2 : 2 < w.heap.size) (t : Tch lo hi W W') : Bk v d w W' :=
  ⟨h.bel.trans (t.below hlo h.bel.size), h.tx.keep t.size (fun j hj => t.block j (by have := h.bel.size; omega) (by omega)), byl_tch h.dat t (fun g hg => by have := hv g hg; omega)⟩
theorem Own.below {lo hi : Nat} {v : Value} {l : List Nat} {w w' : World} (h : Own lo hi v l w) (b : Below w.heap.size w w') : Own lo hi v l w' := h.keep fun g hg => b.block g (byl_lt h.byl g hg)
/-- A reader's answer, in its window. -/
theorem own_read {w w' : World} {v : Value} {l : List Nat} (h : w'.ownsRow w.heap.size 5 1 v l.length (bs l).toList) : Own w.heap.size w'.heap.size v l w' := ⟨h, fun g hg => byl_lt (byl_own h).1 g hg⟩
theorem unhex_b (d : List Nat) (hb : Byt d) (hl : d.length ≤ 140737488351232) (w : World) (ht : Tx w) : Calls Tryd.prog 20 #[.string (str (hexL d))] w (RdP d (0, 0) w) := by
  have := unhex_any (str (hexL d)) (by rw [str_size, hexL_len]; omega) w ht
  rw [byt_str _ (hexL_byt d hb), hexV_hexL d hb, hexE_back d hb] at this
  exact this
theorem un32_b (d : List Nat) (hb : Byt d) (hl : d.length ≤ 140737488351232) (w : World) (ht : Tx w) : Calls Tryd.prog 21 #[.string (str (b32L d))] w (RdP d (0, 0) w) := by
  have := un32_any (str (b32L d)) (by rw [str_size, b32L_len]; unfold n32; omega) w ht
  rw [byt_str _ (b32L_byt d), (b32_back d hb).1, (b32_back d hb).2] at this
  exact this
theorem un64_b (d : List Nat) (hb : Byt d) (hl : d.length ≤ 140737488351232) (w : World) (ht : Tx w) : Calls Tryd.prog 22 #[.string (str (b64L d))] w (RdP d (0, 0) w) := by
  have := un64_any (str (b64L d)) (by rw [str_size, b64L_len _ d (Nat.le_refl _)]; omega) w ht
  rw [byt_str _ (b64L_byt d hb), (b64_back d hb).1, (b64_back d hb).2] at this
  exact this
end Go.Proofs.YtkppejaigodgiabDoor
