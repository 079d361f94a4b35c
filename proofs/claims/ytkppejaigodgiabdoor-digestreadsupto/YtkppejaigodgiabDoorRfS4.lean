/- The law's hoard: stands, whole. -/
import Derived.Test.YtkppejaigodgiabDoorRfS3
namespace Go.Proofs.YtkppejaigodgiabDoor
open Go.RowKit
set_option maxHeartbeats 1000000 in
theorem bytes_q (a : List Nat) (hal : a.length ≤ 1099511627776) (v u : Value) (w : World) (hv : Byl v a w) (hu : Byl u a w) :
    Calls Tryd.prog 18 #[v, u] w fun e w' => e = .returned (.bool true) ∧ ∃ n, w' = w.drewN n := by
  obtain ⟨o, c, rfl, _, _, ho⟩ := hv.form
  obtain ⟨q, d, rfl, _, _, hq⟩ := hu.form
  go_enter Tryd.func18, Tryd.ntmps18
  go_wp2_with fail
  go_loopw [5] (fun i wr => ∃ k : Nat, i = .int .i64 (k : Int) ∧ k ≤ a.length ∧ ∃ n, wr = w.drewN n) (fun i _ => a.length - (intOf i).toNat)
  case atStart => exact ⟨0, rfl, by omega, 0, rfl⟩
  case round =>
    obtain ⟨k, rfl, hk, n, hwr⟩ := hrel
    by_cases hlt : k < a.length
    · obtain ⟨b1, o1, rfl, hb1, hc1⟩ := ho (by omega)
      obtain ⟨b2, o2, rfl, hb2, hc2⟩ := hq (by omega)
      have cx : wr.cell? ⟨b1, o1 + k, none⟩ = some (.int .u8 ((a.getD k 0 : Nat) : Int)) := by rw [hwr]; exact hc1 k hlt
      have cy : wr.cell? ⟨b2, o2 + k, none⟩ = some (.int .u8 ((a.getD k 0 : Nat) : Int)) := by rw [hwr]; exact hc2 k hlt
      have HW : Hid (wr = w.drewN n) := hwr
      revert cx cy
      generalize a.getD k 0 = x
      intro cx cy
      clear hwr
      have hk0 : (0 : Int) ≤ (k : Int) := by omega
      have hk1 : (k : Int) < (a.length : Int) := by omega
      go_wp2
      go_quiet (fail)
      go_wp2
      go_roundw
      case rel => exact ⟨k + 1, by go_num, by omega, n + nq, by rw [HW.out, World.drewN_drewN]⟩
      case measure => simp [intOf]; omega
    · have hk1 : ¬ ((k : Int) < (a.length : Int)) := by omega
      go_wp2
      go_ret
      exact ⟨rfl, n, by first | exact hwr | rfl⟩
theorem Kp.drewN {g : Nat} {vl vw : Value} {xs ws : List Value} {ls : List (List Nat)} {w : World} (h : Kp g vl vw xs ws ls w) (n : Nat) : Kp g vl vw xs ws ls (w.drewN n) :=
  h.below (Below.drewN' (Below.refl _ _) n)
set_option maxRecDepth 100000 in
set_option maxHeartbeats 3200000 in
theorem stands_any (g : Nat) (vl vw : Value) (xs ws : List Value) (ls : List (List Nat)) (w : World) (hn : xs.length ≤ 100) (H : Kp g vl vw xs ws ls w) (hb : ∀ l ∈ ls, l.length ≤ 1048576) :
    Calls Tryd.prog 26 #[.pointer (some ⟨g, 0, none⟩)] w fun e w' => e = .returned (.bool true) ∧ Hd g vl vw xs ws w' ∧ Below g w w' := by
  obtain ⟨ol, cl, rfl⟩ := own_slice H.hd.l
  obtain ⟨ow, cw, rfl⟩ := own_slice H.hd.w
  obtain ⟨n, hxn⟩ : ∃ n, xs.length = n := ⟨_, rfl⟩
  rw [hxn] at hn H ⊢
  have HX : Hid (xs.length = n) := hxn
  have HK : Hid (Kp g (.slice ol n cl) (.slice ow n cw) xs ws ls w) := H
  have HB : Hid (∀ l ∈ ls, l.length ≤ 1048576) := hb
  have c0 : w.cell? ⟨g, 0, none⟩ = some (.slice ol n cl) := (cell_of_row w g 0 _ _ _ H.hd.row).trans rfl
  have c1 : w.cell? ⟨g, 1, none⟩ = some (.slice ow n cw) := (cell_of_row w g 1 _ _ _ H.hd.row).trans rfl
  clear H hb hxn
  go_enter Tryd.func26, Tryd.ntmps26
  go_wp2_with fail
  go_loopw [3] (fun i wr => ∃ k m : Nat, i = .int .i64 (k : Int) ∧ k ≤ n ∧ Hid (wr = w.drewN m)) (fun i _ => n - (intOf i).toNat)
  case atStart => exact ⟨0, 0, rfl, by omega, rfl⟩
  case round =>
    obtain ⟨i, m, rfl, hi, HW⟩ := hrel
    have d0 : wr.cell? ⟨g, 0, none⟩ = some (.slice ol n cl) := by rw [HW.out]; exact c0
    have d1 : wr.cell? ⟨g, 1, none⟩ = some (.slice ow n cw) := by rw [HW.out]; exact c1
    by_cases hlt : i < n
    · have hi0 : (0 : Int) ≤ (i : Int) := by omega
      have hi1 : (i : Int) < (n : Int) := by omega
      have hxi : i < xs.length := by have := HX.out; omega
      have hwi : i < ws.length := by have := HK.out.hd.wlen; omega
      have hli : i < ls.length := by have := HK.out.len; omega
      obtain ⟨x, hx⟩ : ∃ x, xs[i]? = some x := ⟨_, List.getElem?_eq_getElem hxi⟩
      obtain ⟨y, hy⟩ : ∃ y, ws[i]? = some y := ⟨_, List.getElem?_eq_getElem hwi⟩
      obtain ⟨l, hl⟩ : ∃ l, ls[i]? = some l := ⟨_, List.getElem?_eq_getElem hli⟩
      obtain ⟨bl, rfl, _, _, _, hcl⟩ := own_form HK.out.hd.l (by omega)
      obtain ⟨bw, rfl, _, _, _, hcw⟩ := own_form HK.out.hd.w (by omega)
      have ci : wr.cell? ⟨bl, i, none⟩ = some x := by rw [HW.out]; exact hcl i _ hx
      have di : wr.cell? ⟨bw, i, none⟩ = some y := by rw [HW.out]; exact hcw i _ hy
      have hlen := HB.out l (List.mem_of_getElem? hl)
      have CB : Hid (∀ q, Calls Tryd.prog 18 #[x, y] (wr.drewN q) fun e w' => e = .returned (.bool true) ∧ ∃ n, w' = (wr.drewN q).drewN n) := fun q => bytes_q l (by omega) x y _
        (by rw [HW.out]; exact (byl_own ((HK.out.own i x l hx hl))).1) (by rw [HW.out]; exact HK.out.cop i y l hy hl)
      obtain ⟨ox, cx, rfl⟩ := own_slice (HK.out.own i x l hx hl)
      obtain ⟨oy, cy, rfl, _⟩ := (HK.out.cop i y l hy hl).form
      clear hcl hcw hlen hx hy hl hxi hwi hli c0 c1
      go_wp2_with fail
      go_quiet ((go_at_call 18; exact Calls.quiet_of (CB.out _)))
      go_wp2
      exact ⟨⟨i + 1, m + nq, by rfl, by omega, by show _ = _; rw [HW.out, World.drewN_drewN]⟩, by simp only [intOf]; omega⟩
    · have hi1 : ¬ ((i : Int) < (n : Int)) := by omega
      have HQ : Hid (Kq g (.slice ol n cl) (.slice ow n cw) xs ws ls wr) := by rw [HW.out]; exact (HK.out.drewN m).q
      have HF : Hid (Wr 0 ls) := ⟨fun j l hl => HB.out l (List.mem_of_getElem? hl), fun j l hj => by omega⟩
      rename_i K hKK
      have HT : Hid (∀ a w, Code.wp Tryd.prog tail26a _ a w → K a w) := hKK
      clear hKK
      go_wp2
      refine HT.out _ _ ?_
      refine tailA g n ol cl (.slice ow n cw) hn xs ws ls HX.out HF.out _ _ _ _ _ _ _ _ _ _ _ _ _ _ _ _ _ _ _ _ _ _ _ _ _ _ _ _ _ _ _ _ _ _ _ _ _ _ _ _ _ _ _ _ _ _ _ _ _ _ _ _ _ _ _ _ _ _ _ _ _ _ _ _ _ _ _ _ _ _ _ _ _ _ _ _ _ _ _ _ _ _ _ _ _ _ _ _ _ _ _ _ _ _ _ _ _ _ _ _ _ _ _ _ _ _ _ _ _ _ _ _ _ _ _ _ _ _ _ _ _ _ _ _ _ _ _ _ _ _ _ _ _ _ _ _ _ _ _ _ _ _ _ _ _ _ _ _ _ _ _ _ _ _ _ _ _ _ _ _ _ _ _ _ _ _ _ _ _ _ _ _ _ _ _ _ _ HQ _ ?_
      exact fun w' h1 h2 => ⟨rfl, h1, Below.trans (by rw [HW.out]; exact Below.drewN' (Below.refl _ _) m) h2⟩
end Go.Proofs.YtkppejaigodgiabDoor
