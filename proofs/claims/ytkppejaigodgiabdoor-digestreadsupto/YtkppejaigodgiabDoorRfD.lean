/- The law's helper bases. -/
import Derived.Test.YtkppejaigodgiabDoorRfB
namespace Go.Proofs.YtkppejaigodgiabDoor
open Go.RowKit
/-- The bytes that a reader answers with. -/
def eff (L : List Nat) (E : Nat × Nat) : List Nat := if E.1 = 0 then L else []
theorem eff_own {L : List Nat} {E : Nat × Nat} {w : World} {B : Nat} {v : Value} (h : if E.1 = 0 then w.ownsRow B 5 1 v L.length (bs L).toList else v = .slice none 0 0) : w.ownsRow B 5 1 v (eff L E).length (bs (eff L E)).toList := by
  unfold eff
  by_cases h0 : E.1 = 0
  · rw [if_pos h0] at h ⊢; exact h
  · rw [if_neg h0] at h ⊢; rw [h]; exact World.ownsRow_nil _ _ _ _
theorem eff_byl {L : List Nat} {E : Nat × Nat} {w : World} {v : Value} (h : if E.1 = 0 then Byl v L w else v = .slice none 0 0) : Byl v (eff L E) w := by
  unfold eff
  by_cases h0 : E.1 = 0
  · rw [if_pos h0] at h ⊢; exact h
  · rw [if_neg h0] at h ⊢; rw [h]; exact .inl ⟨rfl, rfl⟩
theorem eff_len {L : List Nat} {E : Nat × Nat} {n : Nat} (h : E.1 = 0 → L.length ≤ n) : (eff L E).length ≤ n := by
  unfold eff
  by_cases h0 : E.1 = 0
  · rw [if_pos h0]; exact h h0
  · rw [if_neg h0]; exact Nat.zero_le _
theorem v64_len {t : List Nat} (h : (v64E t).1 = 0) : (v64V t).length ≤ t.length := by
  obtain ⟨_, _, h1, _⟩ := v64E_ok h
  have := (s64_inv (noFill t) (fun j hj => fuL_all D64 (noFill t) h1 j hj) (noFill t).length (Nat.le_refl _)).2.2
  have h2 := noFill_len t
  unfold v64V
  omega
/-- What one third of bases leaves. -/
structure Th (g n : Nat) (w W : World) : Prop where
  ex : ∃ vl vw xs ws ls, Kp g vl vw xs ws ls W ∧ xs.length = n ∧ ∀ l ∈ ls, l.length ≤ 1048576
  bel : Below g w W
theorem Th.below {g n : Nat} {w W W' : World} (h : Th g n w W) (b : Below W.heap.size W W') : Th g n w W' := by
  obtain ⟨⟨vl, vw, xs, ws, ls, K, hn, hb⟩, bl⟩ := h
  exact ⟨⟨vl, vw, xs, ws, ls, K.below b, hn, hb⟩, bl.trans (b.mono (Nat.le_of_lt (Array.getElem?_eq_some_iff.1 K.hd.row).1))⟩
theorem third (g n : Nat) (hn : n ≤ 900) (_hg : 2 < g) (L : List Nat) (E : Nat × Nat) (hL : (eff L E).length ≤ 1048576) (w W W1 W2 : World) (h : Th g n w W) (a d : Value) (b1 : Below W.heap.size W W1) (b2 : Below W1.heap.size W1 W2)
    (h1 : if E.1 = 0 then W1.ownsRow W.heap.size 5 1 a L.length (bs L).toList else a = .slice none 0 0) (h2 : if E.1 = 0 then Byl d L W2 else d = .slice none 0 0) (hd : ∀ k, d.ownBlock = some k → W.heap.size ≤ k) :
    Calls Tryd.prog 47 #[.pointer (some ⟨g, 0, none⟩), a] W2 fun e W3 => e = .returned (.tuple #[]) ∧ Th g (n + 1) w W3 ∧
      Calls Tryd.prog 48 #[a, .int .i64 (E.1 : Int), .int .i64 (E.2 : Int), d, .int .i64 (E.1 : Int), .int .i64 (E.2 : Int)] W3 fun e W4 => e = .returned (.bool true) ∧ Th g (n + 1) w W4 := by
  obtain ⟨⟨vl, vw, xs, ws, ls, K, hxn, hb⟩, bl⟩ := h
  have b12 : Below W.heap.size W W2 := b1.trans (b2.mono b1.size)
  have o1 := eff_own h1
  have o2 : W2.ownsRow W.heap.size 5 1 a (eff L E).length (bs (eff L E)).toList := own_keep o1 fun k hk => b2.block k (o1.lt k hk).2
  have y2 := eff_byl h2
  have hgW : g < W.heap.size := (Array.getElem?_eq_some_iff.1 K.hd.row).1
  refine (kp_take g vl vw a xs ws ls (eff L E) W W2 (by omega) (by omega) K b12 o2).mono ?_
  rintro e W3 ⟨vl', vw', x, rfl, K3, os, tape, out, sz, blk, blg⟩
  have T3 : Th g (n + 1) w W3 := by
    refine ⟨⟨vl', vw', _, _, _, K3, by simp [hxn], fun l hl => ?_⟩, bl.trans ((b12.mono (by omega)).trans ⟨os, tape, out, sz, fun k hk => blg k hk⟩)⟩
    rcases List.mem_append.1 hl with h | h
    · exact hb l h
    · rw [List.mem_singleton.1 h]; exact hL
  refine ⟨rfl, T3, ?_⟩
  have y3 : Byl d (eff L E) W3 := byl_block y2 sz fun k hk => blk k (byl_lt y2 k hk) (hd k hk)
  have a3 : Byl a (eff L E) W3 := byl_block (byl_own o2).1 sz fun k hk => blk k (o2.lt k hk).2 (o2.lt k hk).1
  refine (taken_any a d (eff L E) (by omega) E.1 E.2 W3 a3 y3).mono ?_
  rintro e W4 ⟨rfl, b4⟩
  exact ⟨rfl, T3.below b4⟩
/-- As RdB, and what came is new. -/
def RdF (L : List Nat) (E : Nat × Nat) (w : World) (e : Ending) (w' : World) : Prop :=
  Below w.heap.size w w' ∧ ∃ v, e = .returned (.tuple #[v, .int .i64 ((E.1 : Nat) : Int), .int .i64 ((E.2 : Nat) : Int)]) ∧
    (if E.1 = 0 then Byl v L w' else v = .slice none 0 0) ∧ ∀ k, v.ownBlock = some k → w.heap.size ≤ k
theorem RdP.f {L : List Nat} {E : Nat × Nat} {w : World} {e : Ending} {w' : World} (h : RdP L E w e w') : RdF L E w e w' := by
  obtain ⟨h1, v, h2, h3⟩ := h
  refine ⟨h1, v, h2, ?_⟩
  by_cases h0 : E.1 = 0
  · rw [if_pos h0] at h3 ⊢; exact ⟨(byl_own h3).1, fun k hk => (h3.lt k hk).1⟩
  · rw [if_neg h0] at h3 ⊢; exact ⟨h3, fun k hk => by rw [h3] at hk; simp [Value.ownBlock] at hk⟩
theorem RdQ.f {L : List Nat} {E : Nat × Nat} {w : World} {e : Ending} {w' : World} (h : RdQ L E w e w') (hm : L.length ≤ maxLen) : RdF L E w e w' := by
  obtain ⟨h1, v, h2, h3⟩ := h
  refine ⟨h1, v, h2, ?_⟩
  by_cases h0 : E.1 = 0
  · rw [if_pos h0] at h3 ⊢
    obtain ⟨g, x, rfl, hw, hg⟩ := h3
    exact ⟨byl_init hg hm, fun k hk => by have : g = k := by simpa [Value.ownBlock] using hk
                                          omega⟩
  · rw [if_neg h0] at h3 ⊢; exact ⟨h3, fun k hk => by rw [h3] at hk; simp [Value.ownBlock] at hk⟩
set_option maxRecDepth 100000 in
set_option maxHeartbeats 3200000 in
theorem bases_any (s : ByteArray) (hs : s.size ≤ 1048576) (g n : Nat) (hn : n ≤ 800) (hg : 2 < g) (w0 w : World) (h : Th g n w0 w) (ht : Tx w0) :
    Calls Tryd.prog 25 #[.string s, .pointer (some ⟨g, 0, none⟩)] w fun e w' => e = .returned (.bool true) ∧ Th g (n + 3) w0 w' := by
  have hl := tl_len s
  have HT : Hid (∀ W m, Th g m w0 W → Tx W) := fun W m h => ht.below h.bel hg
  have L1 : (eff (hexV (tl s)) (hexE (tl s))).length ≤ 1048576 := eff_len fun _ => by rw [hexV_len _ _ (Nat.le_refl _)]; omega
  have L2 : (eff (v32V (tl s)) (v32E (tl s))).length ≤ 1048576 := eff_len fun _ => by unfold v32V; rw [byts_len]; omega
  have L3 : (eff (v64V (tl s)) (v64E (tl s))).length ≤ 1048576 := eff_len fun h => by have := v64_len h; omega
  have C1 : Hid (∀ W, Tx W → Calls Tryd.prog 20 #[.string s] W (RdP (hexV (tl s)) (hexE (tl s)) W)) := fun W h => unhex_any s (by omega) W h
  have C2 : Hid (∀ W, Tx W → Calls Tryd.prog 21 #[.string s] W (RdP (v32V (tl s)) (v32E (tl s)) W)) := fun W h => un32_any s (by omega) W h
  have C3 : Hid (∀ W, Tx W → Calls Tryd.prog 22 #[.string s] W (RdP (v64V (tl s)) (v64E (tl s)) W)) := fun W h => un64_any s (by omega) W h
  have D1 : Hid (∀ W, Calls Tryd.prog 46 #[.string s] W (RdF (hexV (tl s)) (hexE (tl s)) W)) := fun W => (unhexR_any s (by omega) W).mono fun _ _ h => h.f
  have D2 : Hid (∀ W, Calls Tryd.prog 49 #[.string s] W (RdF (v32V (tl s)) (v32E (tl s)) W)) := fun W => (un32R_any s (by omega) W).mono fun _ _ h => h.f (by unfold v32V; rw [byts_len]; unfold maxLen; omega)
  have D3 : Hid (∀ W, Calls Tryd.prog 50 #[.string s] W (RdF (v64V (tl s)) (v64E (tl s)) W)) := fun W => (un64R_any s (by omega) W).mono fun _ _ h => h.f
  have T1 := fun a d W W1 W2 hh => third g n (by omega) hg (hexV (tl s)) (hexE (tl s)) L1 w0 W W1 W2 hh a d
  have T2 := fun a d W W1 W2 hh => third g (n + 1) (by omega) hg (v32V (tl s)) (v32E (tl s)) L2 w0 W W1 W2 hh a d
  have T3 := fun a d W W1 W2 hh => third g (n + 2) (by omega) hg (v64V (tl s)) (v64E (tl s)) L3 w0 W W1 W2 hh a d
  revert C1 C2 C3 D1 D2 D3 T1 T2 T3
  generalize hexV (tl s) = L1', hexE (tl s) = E1, v32V (tl s) = L2', v32E (tl s) = E2, v64V (tl s) = L3', v64E (tl s) = E3
  obtain ⟨e1, p1⟩ := E1
  obtain ⟨e2, p2⟩ := E2
  obtain ⟨e3, p3⟩ := E3
  intro C1 C2 C3 D1 D2 D3 T1 T2 T3
  have H1 : Hid (∀ a d W W1 W2 hh, _) := T1
  have H2 : Hid (∀ a d W W1 W2 hh, _) := T2
  have H3 : Hid (∀ a d W W1 W2 hh, _) := T3
  clear T1 T2 T3 hl L1 L2 L3
  go_enter Tryd.func25, Tryd.ntmps25
  go_wp2_with fail
  refine (C1.out w (HT.out _ _ h)).mono ?_
  rintro e Wb1 ⟨bb, av1, rfl, ov1⟩
  go_wp2_with fail
  refine (D1.out Wb1).mono ?_
  rintro e Wc1 ⟨bc, dv1, rfl, yv1, fv1⟩
  have S : Hid _ := H1.out av1 dv1 w Wb1 Wc1 h bb bc ov1 yv1 (fun k hk => Nat.le_trans bb.size (fv1 k hk))
  clear ov1 yv1 fv1 bb bc
  go_wp2_with fail
  refine Calls.mono S.out ?_
  rintro e Wd1 ⟨rfl, hd, S2⟩
  have S3 : Hid _ := S2
  clear S S2
  go_wp2_with fail
  refine Calls.mono S3.out ?_
  rintro e We1 ⟨rfl, he1⟩
  clear S3 hd
  go_wp2_with fail
  refine (C2.out We1 (HT.out _ _ he1)).mono ?_
  rintro e Wb2 ⟨bb, av2, rfl, ov2⟩
  go_wp2_with fail
  refine (D2.out Wb2).mono ?_
  rintro e Wc2 ⟨bc, dv2, rfl, yv2, fv2⟩
  have S : Hid _ := H2.out av2 dv2 We1 Wb2 Wc2 he1 bb bc ov2 yv2 (fun k hk => Nat.le_trans bb.size (fv2 k hk))
  clear ov2 yv2 fv2 bb bc
  go_wp2_with fail
  refine Calls.mono S.out ?_
  rintro e Wd2 ⟨rfl, hd, S2⟩
  have S3 : Hid _ := S2
  clear S S2
  go_wp2_with fail
  refine Calls.mono S3.out ?_
  rintro e We2 ⟨rfl, he2⟩
  clear S3 hd
  go_wp2_with fail
  refine (C3.out We2 (HT.out _ _ he2)).mono ?_
  rintro e Wb3 ⟨bb, av3, rfl, ov3⟩
  go_wp2_with fail
  refine (D3.out Wb3).mono ?_
  rintro e Wc3 ⟨bc, dv3, rfl, yv3, fv3⟩
  have S : Hid _ := H3.out av3 dv3 We2 Wb3 Wc3 he2 bb bc ov3 yv3 (fun k hk => Nat.le_trans bb.size (fv3 k hk))
  clear ov3 yv3 fv3 bb bc
  go_wp2_with fail
  refine Calls.mono S.out ?_
  rintro e Wd3 ⟨rfl, hd, S2⟩
  have S3 : Hid _ := S2
  clear S S2
  go_wp2_with fail
  refine Calls.mono S3.out ?_
  rintro e We3 ⟨rfl, he3⟩
  clear S3 hd
  go_wp2
  go_ret
  exact ⟨rfl, he3⟩
end Go.Proofs.YtkppejaigodgiabDoor
