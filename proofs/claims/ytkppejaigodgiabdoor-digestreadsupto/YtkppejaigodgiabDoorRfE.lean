/- The law's helper bases, where the hoard's lists have been written over. -/
import Derived.Test.YtkppejaigodgiabDoorRfS4
namespace Go.Proofs.YtkppejaigodgiabDoor
open Go.RowKit
/-- The hoard alone. -/
structure Tw (g n : Nat) (w W : World) : Prop where
  ex : ∃ vl vw xs ws, Hd g vl vw xs ws W ∧ xs.length = n
  bel : Below g w W
theorem Tw.below {g n : Nat} {w W W' : World} (h : Tw g n w W) (b : Below W.heap.size W W') : Tw g n w W' := by
  obtain ⟨⟨vl, vw, xs, ws, K, hn⟩, bl⟩ := h
  exact ⟨⟨vl, vw, xs, ws, K.below b, hn⟩, bl.trans (b.mono (Nat.le_of_lt (Array.getElem?_eq_some_iff.1 K.row).1))⟩
theorem thirdW (g n : Nat) (hn : n ≤ 900) (_hg : 2 < g) (L : List Nat) (E : Nat × Nat) (hL : (eff L E).length ≤ 1048576) (w W W1 W2 : World) (h : Tw g n w W) (a d : Value) (b1 : Below W.heap.size W W1) (b2 : Below W1.heap.size W1 W2)
    (h1 : if E.1 = 0 then W1.ownsRow W.heap.size 5 1 a L.length (bs L).toList else a = .slice none 0 0) (h2 : if E.1 = 0 then Byl d L W2 else d = .slice none 0 0) (hd : ∀ k, d.ownBlock = some k → W.heap.size ≤ k) :
    Calls Tryd.prog 47 #[.pointer (some ⟨g, 0, none⟩), a] W2 fun e W3 => e = .returned (.tuple #[]) ∧ Tw g (n + 1) w W3 ∧
      Calls Tryd.prog 48 #[a, .int .i64 (E.1 : Int), .int .i64 (E.2 : Int), d, .int .i64 (E.1 : Int), .int .i64 (E.2 : Int)] W3 fun e W4 => e = .returned (.bool true) ∧ Tw g (n + 1) w W4 := by
  obtain ⟨⟨vl, vw, xs, ws, K, hxn⟩, bl⟩ := h
  have b12 : Below W.heap.size W W2 := b1.trans (b2.mono b1.size)
  have o1 := eff_own h1
  have o2 : W2.ownsRow W.heap.size 5 1 a (eff L E).length (bs (eff L E)).toList := own_keep o1 fun k hk => b2.block k (o1.lt k hk).2
  have y2 := eff_byl h2
  have hgW : g < W.heap.size := (Array.getElem?_eq_some_iff.1 K.row).1
  have ltl := fun k hk => K.l.lt k hk
  have ltw := fun k hk => K.w.lt k hk
  have ltv := fun k hk => o2.lt k hk
  refine (take_any g vl vw a xs ws (eff L E) W2 (by omega) (by omega) (K.below b12) (byl_own o2).1 (fun k hk => by
    have := ltv k hk
    exact ⟨by omega, fun h => by have := ltl k h; omega, fun h => by have := ltw k h; omega⟩)).mono ?_
  rintro e W3 ⟨vl', vw', x, rfl, H, hx, xb, lb, wb, os, tape, out, sz, blk⟩
  have blk2 : ∀ k, k < W2.heap.size → W.heap.size ≤ k → W3.heap[k]? = W2.heap[k]? := fun k hk hk2 => blk k hk (by omega) (fun h => by have := ltl k h; omega) (fun h => by have := ltw k h; omega)
  have blg : ∀ k, k < g → W3.heap[k]? = W2.heap[k]? := fun k hk => blk k (by have := b12.size; omega) (by omega) (fun h => by have := ltl k h; omega) (fun h => by have := ltw k h; omega)
  have T3 : Tw g (n + 1) w W3 := ⟨⟨vl', vw', _, _, H, by simp [hxn]⟩, bl.trans ((b12.mono (by omega)).trans ⟨os, tape, out, sz, fun k hk => blg k hk⟩)⟩
  refine ⟨rfl, T3, ?_⟩
  have y3 : Byl d (eff L E) W3 := byl_block y2 sz fun k hk => blk2 k (byl_lt y2 k hk) (hd k hk)
  have a3 : Byl a (eff L E) W3 := byl_block (byl_own o2).1 sz fun k hk => blk2 k (o2.lt k hk).2 (o2.lt k hk).1
  refine (taken_any a d (eff L E) (by omega) E.1 E.2 W3 a3 y3).mono ?_
  rintro e W4 ⟨rfl, b4⟩
  exact ⟨rfl, T3.below b4⟩
set_option maxRecDepth 100000 in
set_option maxHeartbeats 3200000 in
theorem bases_w (s : ByteArray) (hs : s.size ≤ 1048576) (g n : Nat) (hn : n ≤ 800) (hg : 2 < g) (w0 w : World) (h : Tw g n w0 w) (ht : Tx w0) :
    Calls Tryd.prog 25 #[.string s, .pointer (some ⟨g, 0, none⟩)] w fun e w' => e = .returned (.bool true) ∧ Tw g (n + 3) w0 w' := by
  have hl := tl_len s
  have HT : Hid (∀ W m, Tw g m w0 W → Tx W) := fun W m h => ht.below h.bel hg
  have L1 : (eff (hexV (tl s)) (hexE (tl s))).length ≤ 1048576 := eff_len fun _ => by rw [hexV_len _ _ (Nat.le_refl _)]; omega
  have L2 : (eff (v32V (tl s)) (v32E (tl s))).length ≤ 1048576 := eff_len fun _ => by unfold v32V; rw [byts_len]; omega
  have L3 : (eff (v64V (tl s)) (v64E (tl s))).length ≤ 1048576 := eff_len fun h => by have := v64_len h; omega
  have C1 : Hid (∀ W, Tx W → Calls Tryd.prog 20 #[.string s] W (RdP (hexV (tl s)) (hexE (tl s)) W)) := fun W h => unhex_any s (by omega) W h
  have C2 : Hid (∀ W, Tx W → Calls Tryd.prog 21 #[.string s] W (RdP (v32V (tl s)) (v32E (tl s)) W)) := fun W h => un32_any s (by omega) W h
  have C3 : Hid (∀ W, Tx W → Calls Tryd.prog 22 #[.string s] W (RdP (v64V (tl s)) (v64E (tl s)) W)) := fun W h => un64_any s (by omega) W h
  have D1 : Hid (∀ W, Calls Tryd.prog 46 #[.string s] W (RdF (hexV (tl s)) (hexE (tl s)) W)) := fun W => (unhexR_any s (by omega) W).mono fun _ _ h => h.f
  have D2 : Hid (∀ W, Calls Tryd.prog 49 #[.string s] W (RdF (v32V (tl s)) (v32E (tl s)) W)) := fun W => (un32R_any s (by omega) W).mono fun _ _ h => h.f (by unfold v32V; rw [byts_len]; unfold maxLen; omega)
  have D3 : Hid (∀ W, Calls Tryd.prog 50 #[.string s] W (RdF (v64V (tl s)) (v64E (tl s)) W)) := fun W => (un64R_any s (by omega) W).mono fun _ _ h => h.f
  have T1 := fun a d W W1 W2 hh => thirdW g n (by omega) hg (hexV (tl s)) (hexE (tl s)) L1 w0 W W1 W2 hh a d
  have T2 := fun a d W W1 W2 hh => thirdW g (n + 1) (by omega) hg (v32V (tl s)) (v32E (tl s)) L2 w0 W W1 W2 hh a d
  have T3 := fun a d W W1 W2 hh => thirdW g (n + 2) (by omega) hg (v64V (tl s)) (v64E (tl s)) L3 w0 W W1 W2 hh a d
  revert C1 C2 C3 D1 D2 D3 T1 T2 T3
  generalize hexV (tl s) = L1', hexE (tl s) = E1, v32V (tl s) = L2', v32E (tl s) = E2, v64V (tl s) = L3', v64E (tl s) = E3
  obtain ⟨e1, p1⟩ := E1
  obtain ⟨e2, p2⟩ := E2
  obtain ⟨e3, p3⟩ := E3
  intro C1 C2 C3 D1 D2 D3 T1 T2 T3
  have H1 : Hid (∀ a d W W1 W2 hh, _) := T1
  have H2 : Hid (∀ a d W W1 W2 hh, _) := T2
  have H3 : Hid (∀ a d W W1 W2 hh, _) := T3
  clear T1 T2 T3 hl L1 L2 L3
  go_enter Tryd.func25, Tryd.ntmps25
  go_wp2_with fail
  refine (C1.out w (HT.out _ _ h)).mono ?_
  rintro e Wb1 ⟨bb, av1, rfl, ov1⟩
  go_wp2_with fail
  refine (D1.out Wb1).mono ?_
  rintro e Wc1 ⟨bc, dv1, rfl, yv1, fv1⟩
  have S : Hid _ := H1.out av1 dv1 w Wb1 Wc1 h bb bc ov1 yv1 (fun k hk => Nat.le_trans bb.size (fv1 k hk))
  clear ov1 yv1 fv1 bb bc
  go_wp2_with fail
  refine Calls.mono S.out ?_
  rintro e Wd1 ⟨rfl, hd, S2⟩
  have S3 : Hid _ := S2
  clear S S2
  go_wp2_with fail
  refine Calls.mono S3.out ?_
  rintro e We1 ⟨rfl, he1⟩
  clear S3 hd
  go_wp2_with fail
  refine (C2.out We1 (HT.out _ _ he1)).mono ?_
  rintro e Wb2 ⟨bb, av2, rfl, ov2⟩
  go_wp2_with fail
  refine (D2.out Wb2).mono ?_
  rintro e Wc2 ⟨bc, dv2, rfl, yv2, fv2⟩
  have S : Hid _ := H2.out av2 dv2 We1 Wb2 Wc2 he1 bb bc ov2 yv2 (fun k hk => Nat.le_trans bb.size (fv2 k hk))
  clear ov2 yv2 fv2 bb bc
  go_wp2_with fail
  refine Calls.mono S.out ?_
  rintro e Wd2 ⟨rfl, hd, S2⟩
  have S3 : Hid _ := S2
  clear S S2
  go_wp2_with fail
  refine Calls.mono S3.out ?_
  rintro e We2 ⟨rfl, he2⟩
  clear S3 hd
  go_wp2_with fail
  refine (C3.out We2 (HT.out _ _ he2)).mono ?_
  rintro e Wb3 ⟨bb, av3, rfl, ov3⟩
  go_wp2_with fail
  refine (D3.out Wb3).mono ?_
  rintro e Wc3 ⟨bc, dv3, rfl, yv3, fv3⟩
  have S : Hid _ := H3.out av3 dv3 We2 Wb3 Wc3 he2 bb bc ov3 yv3 (fun k hk => Nat.le_trans bb.size (fv3 k hk))
  clear ov3 yv3 fv3 bb bc
  go_wp2_with fail
  refine Calls.mono S.out ?_
  rintro e Wd3 ⟨rfl, hd, S2⟩
  have S3 : Hid _ := S2
  clear S S2
  go_wp2_with fail
  refine Calls.mono S3.out ?_
  rintro e We3 ⟨rfl, he3⟩
  clear S3 hd
  go_wp2
  go_ret
  exact ⟨rfl, he3⟩
end Go.Proofs.YtkppejaigodgiabDoor
