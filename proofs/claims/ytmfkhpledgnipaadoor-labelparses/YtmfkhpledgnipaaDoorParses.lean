/- LabelParses' walk. -/
import Derived.Test.YtmfkhpledgnipaaDoorRefSp
namespace Go.Proofs.YtmfkhpledgnipaaDoor
open Go.RowKit
theorem spl_acc : ∀ (f : Nat) (l : List UInt8) (k : Nat) (acc : List (List UInt8)), (spl f l k acc).1.length ≤ acc.length + l.length
  | 0, _, _, _ => by simp [spl]
  | f + 1, [], _, _ => by simp [spl]
  | f + 1, b :: r, k, acc => by
    have hp := pre_len 47 r
    show (if okS (pre 47 r) = true then spl f (r.drop (pre 47 r).length) (k + 1 + (pre 47 r).length) (acc ++ [pre 47 r]) else (acc, some (k + 1))).1.length ≤ _
    by_cases ho : okS (pre 47 r) = true
    · rw [if_pos ho]
      have := spl_acc f (r.drop (pre 47 r).length) (k + 1 + (pre 47 r).length) (acc ++ [pre 47 r])
      rw [List.length_drop] at this
      simp at this ⊢
      omega
    · rw [if_neg ho]
      simp
theorem own_setRow {W : World} {base e size n G : Nat} {v : Value} {xs : List Value} (h : W.ownsRow base e size v n xs) (hG : G < base) (c : Array Value) : (W.setRow G c).ownsRow base e size v n xs := by
  obtain ⟨hl, h⟩ := h
  refine ⟨hl, ?_⟩
  rcases h with h | ⟨g, cap, cur, h1, h2, h3, h4⟩
  · exact .inl h
  · exact .inr ⟨g, cap, cur, h1, h2, (setRow_other _ _ _ _ (by omega)).trans h3, h4⟩
theorem pb_form (s : ByteArray) : ∃ (h : List Nat) (nm : ByteArray) (e p : Nat), h.length = 20 ∧ pbV s = (lab h nm, e, p) := by
  rcases pbV_form s with ⟨_, h, nm, hl, _, f2, _⟩ | ⟨_, f2, _⟩
  · exact ⟨h, nm, (pbV s).2.1, (pbV s).2.2, hl, by rw [← f2]⟩
  · exact ⟨z20, ⟨#[]⟩, (pbV s).2.1, (pbV s).2.2, rfl, by rw [show lab z20 ⟨#[]⟩ = none25 from rfl, ← f2]⟩
theorem pa_form (s : ByteArray) : ∃ (h : List Nat) (nm : ByteArray) (e p : Nat), h.length = 20 ∧ paV s = (lab h nm, e, p) := by
  rcases paV_form s with ⟨_, h, nm, hl, _, f2, _⟩ | ⟨_, f2⟩
  · exact ⟨h, nm, (paV s).2.1, (paV s).2.2, hl, by rw [← f2]⟩
  · exact ⟨z20, ⟨#[]⟩, (paV s).2.1, (paV s).2.2, rfl, by rw [show lab z20 ⟨#[]⟩ = none25 from rfl, ← f2]⟩
theorem sg_form (s : ByteArray) : ∃ (h : List Nat) (nm : ByteArray) (e p : Nat) (L : List (List UInt8)), h.length = 20 ∧ L.length ≤ 1048576 ∧ ∀ w en w', SgPost s w en w' → Below w.heap.size w w' ∧ ∃ v, en = .returned (.tuple #[.agg (lab h nm), v, .int .i64 (e : Int), .int .i64 (p : Int)]) ∧ w'.ownsRow w.heap.size 9 1 v L.length (ts L) := by
  by_cases hb : 16384 < s.size
  · refine ⟨z20, ⟨#[]⟩, 1, 0, [], rfl, by simp, fun w en w' h => ⟨h.1, _, ?_, World.ownsRow_nil _ _ _ _⟩⟩
    have h2 := h.2
    rw [if_pos hb] at h2
    exact h2
  by_cases hq : (paV (ofL (s.data.toList.take (endN s)))).2.1 = 0
  · obtain ⟨res, hres⟩ : ∃ r, spl (s.size - endN s) (s.data.toList.drop (endN s)) 0 [] = r := ⟨_, rfl⟩
    have hac := spl_acc (s.size - endN s) (s.data.toList.drop (endN s)) 0 []
    rw [hres, List.length_drop, Array.length_toList] at hac
    have hsz : s.data.size = s.size := rfl
    match res with
    | (acc, none) =>
      rcases paV_form (ofL (s.data.toList.take (endN s))) with ⟨_, h, nm, hl, _, f2, _⟩ | ⟨f1, _⟩
      · refine ⟨h, nm, 0, 0, acc, hl, by simp at hac; omega, fun w en w' hp => ?_⟩
        have h2 := hp.2
        rw [if_neg hb, if_neg (by simpa using hq), hres, f2] at h2
        exact ⟨hp.1, h2⟩
      · exact absurd hq f1
    | (acc, some k) =>
      refine ⟨z20, ⟨#[]⟩, 32, endN s + k, [], rfl, by simp, fun w en w' hp => ⟨hp.1, _, ?_, World.ownsRow_nil _ _ _ _⟩⟩
      have h2 := hp.2
      rw [if_neg hb, if_neg (by simpa using hq), hres] at h2
      exact h2
  · refine ⟨z20, ⟨#[]⟩, (paV (ofL (s.data.toList.take (endN s)))).2.1, (paV (ofL (s.data.toList.take (endN s)))).2.2, [], rfl, by simp, fun w en w' hp => ⟨hp.1, _, ?_, World.ownsRow_nil _ _ _ _⟩⟩
    have h2 := hp.2
    rw [if_neg hb, if_pos hq] at h2
    exact h2
/-- The two labels that the law holds. -/
structure K2 (w W : World) (G H : Nat) (h k : List Nat) (s t : ByteArray) : Prop where
  bel : Below w.heap.size w W
  a : W.heap[G]? = some (.cells (lab h s) 25 (0, 0))
  b : W.heap[H]? = some (.cells (lab k t) 25 (0, 0))
  lo : w.heap.size ≤ G
  gt : G < H
  sz : H < W.heap.size
theorem K2.below {w W W' : World} {G H : Nat} {h k : List Nat} {s t : ByteArray} (K : K2 w W G H h k s t) (b : Below W.heap.size W W') : K2 w W' G H h k s t := by
  have h1 := K.gt; have h2 := K.sz; have h3 := b.size; have h4 := K.lo
  exact ⟨K.bel.trans (b.mono (by omega)), (b.block _ (by omega)).trans K.a, (b.block _ h2).trans K.b, h4, h1, by omega⟩
theorem setRow_size (W : World) (G : Nat) (c : Array Value) : W.heap.size ≤ (W.setRow G c).heap.size := (below_setRow (Below.refl 0 W) (Nat.zero_le _) c).size
theorem K2.setA {w W : World} {G H : Nat} {h k : List Nat} {s t : ByteArray} (K : K2 w W G H h k s t) (h' : List Nat) (s' : ByteArray) : K2 w (W.setRow G (lab h' s')) G H h' k s' t := by
  have h1 := K.gt
  exact ⟨below_setRow K.bel K.lo _, setRow_heap _ _ _ _ _ _ K.a, (setRow_other _ _ _ _ (by omega)).trans K.b, K.lo, h1, Nat.lt_of_lt_of_le K.sz (setRow_size _ _ _)⟩
theorem K2.setB {w W : World} {G H : Nat} {h k : List Nat} {s t : ByteArray} (K : K2 w W G H h k s t) (h' : List Nat) (s' : ByteArray) : K2 w (W.setRow H (lab h' s')) G H h h' s s' := by
  have h1 := K.gt; have h4 := K.lo
  exact ⟨below_setRow K.bel (by omega) _, (setRow_other _ _ _ _ (by omega)).trans K.a, setRow_heap _ _ _ _ _ _ K.b, K.lo, h1, Nat.lt_of_lt_of_le K.sz (setRow_size _ _ _)⟩
attribute [local go_sem] zero25
attribute [local go_sem ↓] to25s to25l toEq
set_option maxRecDepth 100000 in
set_option maxHeartbeats 3200000 in
theorem parses_any (s : ByteArray) (w : World) (ht : Tx w) :
    Calls Tryd.prog 6 #[.string s] w fun e w' => e = .returned (.bool true) ∧ Below w.heap.size w w' := by
  have HT : Hid (∀ W, Below w.heap.size w W → Tx W) := fun W hW => ht.below hW ht.sz
  obtain ⟨h1, n1, e1, p1, hl1, hv1⟩ := pb_form s
  obtain ⟨h2, n2, e2, p2, hl2, hv2⟩ := pa_form s
  obtain ⟨h3, n3, e3, p3, L, hl3, hL, hv3⟩ := sg_form s
  have C13 : Hid (∀ W, Tx W → Calls Tryd.prog 13 #[.string s] W fun e w' => e = .returned (.tuple #[.agg (lab h1 n1), .int .i64 (e1 : Int), .int .i64 (p1 : Int)]) ∧ Below W.heap.size W w') := fun W hW => by
    have := pbC_any s W hW
    rw [hv1] at this
    exact this
  have C20 : Hid (∀ W, Calls Tryd.prog 20 #[.string s] W fun e w' => e = .returned (.tuple #[.agg (lab h1 n1), .int .i64 (e1 : Int), .int .i64 (p1 : Int)]) ∧ Below W.heap.size W w') := fun W => by
    have := pbR_any s W
    rw [hv1] at this
    exact this
  have C12 : Hid (∀ W, Tx W → Calls Tryd.prog 12 #[.string s] W fun e w' => e = .returned (.tuple #[.agg (lab h2 n2), .int .i64 (e2 : Int), .int .i64 (p2 : Int)]) ∧ Below W.heap.size W w') := fun W hW => by
    have := paC_any s W hW
    rw [hv2] at this
    exact this
  have C21 : Hid (∀ W, Calls Tryd.prog 21 #[.string s] W fun e w' => e = .returned (.tuple #[.agg (lab h2 n2), .int .i64 (e2 : Int), .int .i64 (p2 : Int)]) ∧ Below W.heap.size W w') := fun W => by
    have := paR_any s W
    rw [hv2] at this
    exact this
  have C14 : Hid (∀ W, Tx W → Calls Tryd.prog 14 #[.string s] W fun en w' => Below W.heap.size W w' ∧ ∃ v, en = .returned (.tuple #[.agg (lab h3 n3), v, .int .i64 (e3 : Int), .int .i64 (p3 : Int)]) ∧ w'.ownsRow W.heap.size 9 1 v L.length (ts L)) := fun W hW => (splitC_any s W hW).mono fun e w' h => hv3 W e w' h
  have C22 : Hid (∀ W, Calls Tryd.prog 22 #[.string s] W fun en w' => Below W.heap.size W w' ∧ ∃ v, en = .returned (.tuple #[.agg (lab h3 n3), v, .int .i64 (e3 : Int), .int .i64 (p3 : Int)]) ∧ w'.ownsRow W.heap.size 9 1 v L.length (ts L)) := fun W => (splitR_any s W).mono fun e w' h => hv3 W e w' h
  have HT0 : Hid (Tx w) := ht
  clear hv1 hv2 hv3 ht
  go_enter Tryd.func6, Tryd.ntmps6
  go_wp2_with fail
  refine (C13.out _ HT0.out).mono ?_
  rintro e W1 ⟨rfl, b1⟩
  have s1 : (storeR 25 (.pointer (some ⟨W1.heap.size, 0, none⟩)) (.agg (lab h1 n1))).run Tryd.prog (W1.alloc (.cells #[.int .u8 0, .int .u8 0, .int .u8 0, .int .u8 0, .int .u8 0, .int .u8 0, .int .u8 0, .int .u8 0, .int .u8 0, .int .u8 0, .int .u8 0, .int .u8 0, .int .u8 0, .int .u8 0, .int .u8 0, .int .u8 0, .int .u8 0, .int .u8 0, .int .u8 0, .int .u8 0, .string ⟨#[]⟩] 25)) = .ok () ((W1.alloc (.cells none25 25)).setRow W1.heap.size (lab h1 n1)) := run_storeR25 (W1.alloc (.cells none25 25)) W1.heap.size z20 h1 ⟨#[]⟩ n1 (heap_alloc_new _ _) rfl hl1
  obtain ⟨W2, hW2⟩ : ∃ W, W = (W1.alloc (.cells none25 25)).setRow W1.heap.size (lab h1 n1) := ⟨_, rfl⟩
  have R2 : Hid (W2.heap[W1.heap.size]? = some (.cells (lab h1 n1) 25 (0, 0)) ∧ Below w.heap.size w W2 ∧ w.heap.size ≤ W1.heap.size) := by
    rw [hW2]; exact ⟨setRow_heap _ _ _ _ _ _ (heap_alloc_new _ _), below_setRow (b1.alloc b1.size _) b1.size _, b1.size⟩
  rw [← hW2] at s1
  clear hW2 b1
  go_wp2_with fail
  refine (C20.out _).mono ?_
  rintro e W3 ⟨rfl, b3⟩
  clear s1
  have s3 : (storeR 25 (.pointer (some ⟨W3.heap.size, 0, none⟩)) (.agg (lab h1 n1))).run Tryd.prog (W3.alloc (.cells #[.int .u8 0, .int .u8 0, .int .u8 0, .int .u8 0, .int .u8 0, .int .u8 0, .int .u8 0, .int .u8 0, .int .u8 0, .int .u8 0, .int .u8 0, .int .u8 0, .int .u8 0, .int .u8 0, .int .u8 0, .int .u8 0, .int .u8 0, .int .u8 0, .int .u8 0, .int .u8 0, .string ⟨#[]⟩] 25)) = .ok () ((W3.alloc (.cells none25 25)).setRow W3.heap.size (lab h1 n1)) := run_storeR25 (W3.alloc (.cells none25 25)) W3.heap.size z20 h1 ⟨#[]⟩ n1 (heap_alloc_new _ _) rfl hl1
  obtain ⟨W4, hW4⟩ : ∃ W, W = (W3.alloc (.cells none25 25)).setRow W3.heap.size (lab h1 n1) := ⟨_, rfl⟩
  have K4 : K2 w W4 W1.heap.size W3.heap.size h1 h1 n1 n1 := by
    have z12 : W1.heap.size < W2.heap.size := (Array.getElem?_eq_some_iff.1 R2.out.1).1
    have z23 := b3.size
    have r3 : W3.heap[W1.heap.size]? = some (.cells (lab h1 n1) 25 (0, 0)) := (b3.block _ z12).trans R2.out.1
    have hz := R2.out.2.2
    have b3w : Below w.heap.size w W3 := R2.out.2.1.trans (b3.mono (by omega))
    have hr : W4.heap[W3.heap.size]? = some (.cells (lab h1 n1) 25 (0, 0)) := by rw [hW4]; exact setRow_heap _ _ _ _ _ _ (heap_alloc_new _ _)
    refine ⟨by rw [hW4]; exact below_setRow (b3w.alloc (by omega) _) (by omega) _, ?_, hr, hz, by omega, (Array.getElem?_eq_some_iff.1 hr).1⟩
    rw [hW4]; exact (setRow_other _ _ _ _ (by omega)).trans ((heap_alloc_old _ _ (h := by omega)).trans r3)
  rw [← hW4] at s3
  obtain ⟨G, hG⟩ : ∃ G, W1.heap.size = G := ⟨_, rfl⟩
  obtain ⟨H, hH⟩ : ∃ H, W3.heap.size = H := ⟨_, rfl⟩
  rw [hG, hH] at K4
  rw [hH] at s3
  have l4a := run_loadR25 W4 G h1 n1 K4.a hl1
  have l4b := run_loadR25 W4 H h1 n1 K4.b hl1
  have q4 : (eqR (.agg (lab h1 n1)) (.agg (lab h1 n1))).run Tryd.prog W4 = .ok true W4 := by
    have := run_eqR W4 h1 h1 n1 n1 hl1 hl1
    rw [decide_eq_true ⟨rfl, rfl⟩] at this
    exact this
  have KK4 : Hid (K2 w W4 G H h1 h1 n1 n1) := K4
  clear hW4 b3 K4 R2
  go_wp2_with fail
  refine (C12.out _ (HT.out _ KK4.out.bel)).mono ?_
  rintro e W5 ⟨rfl, b5⟩
  have K5 := KK4.out.below b5
  have s5 := run_storeR25 W5 G h1 h2 n1 n2 K5.a hl1 hl2
  obtain ⟨W6, hW6⟩ : ∃ W, W = W5.setRow G (lab h2 n2) := ⟨_, rfl⟩
  have K6 : Hid (K2 w W6 G H h2 h1 n2 n1) := by rw [hW6]; exact K5.setA h2 n2
  rw [← hW6] at s5
  clear hW6 K5 b5 s3 l4a l4b q4 KK4
  go_wp2_with fail
  refine (C21.out _).mono ?_
  rintro e W7 ⟨rfl, b7⟩
  have K7 := K6.out.below b7
  have s7 := run_storeR25 W7 H h1 h2 n1 n2 K7.b hl1 hl2
  obtain ⟨W8, hW8⟩ : ∃ W, W = W7.setRow H (lab h2 n2) := ⟨_, rfl⟩
  have K8 : K2 w W8 G H h2 h2 n2 n2 := by rw [hW8]; exact K7.setB h2 n2
  rw [← hW8] at s7
  have l8a := run_loadR25 W8 G h2 n2 K8.a hl2
  have l8b := run_loadR25 W8 H h2 n2 K8.b hl2
  have q8 : (eqR (.agg (lab h2 n2)) (.agg (lab h2 n2))).run Tryd.prog W8 = .ok true W8 := by
    have := run_eqR W8 h2 h2 n2 n2 hl2 hl2
    rw [decide_eq_true ⟨rfl, rfl⟩] at this
    exact this
  have KK8 : Hid (K2 w W8 G H h2 h2 n2 n2) := K8
  clear hW8 b7 K7 K8 s5 K6
  go_wp2_with fail
  refine (C14.out _ (HT.out _ KK8.out.bel)).mono ?_
  rintro e W9 ⟨b9, v, rfl, o9⟩
  have K9 := KK8.out.below b9
  have s9 := run_storeR25 W9 G h2 h3 n2 n3 K9.a hl2 hl3
  obtain ⟨W10, hW10⟩ : ∃ W, W = W9.setRow G (lab h3 n3) := ⟨_, rfl⟩
  have hsz8 := KK8.out.sz
  have hgt8 := KK8.out.gt
  have K10 : Hid (K2 w W10 G H h3 h2 n3 n2 ∧ W10.ownsRow W8.heap.size 9 1 v L.length (ts L) ∧ G < H ∧ H < W8.heap.size ∧ W8.heap.size ≤ W10.heap.size) := by
    rw [hW10]; exact ⟨K9.setA h3 n3, own_setRow o9 (by omega) _, hgt8, hsz8, Nat.le_trans b9.size (setRow_size _ _ _)⟩
  rw [← hW10] at s9
  clear hW10 K9 b9 o9 s7 l8a l8b q8 KK8 hsz8 hgt8
  go_wp2_with fail
  refine (C22.out _).mono ?_
  rintro e W11 ⟨b11, v', rfl, o11⟩
  have K11 := K10.out.1.below b11
  have s11 := run_storeR25 W11 H h2 h3 n2 n3 K11.b hl2 hl3
  obtain ⟨W12, hW12⟩ : ∃ W, W = W11.setRow H (lab h3 n3) := ⟨_, rfl⟩
  have K12 : K2 w W12 G H h3 h3 n3 n3 := by rw [hW12]; exact K11.setB h3 n3
  have hz := K10.out.2.2
  have ov : Stl v L W12 := by rw [hW12]; exact stl_own (own_setRow (own_below K10.out.2.1 b11) (by omega) _)
  have ov' : Stl v' L W12 := by rw [hW12]; exact stl_own (own_setRow o11 (by omega) _)
  rw [← hW12] at s11
  have l12a := run_loadR25 W12 G h3 n3 K12.a hl3
  have l12b := run_loadR25 W12 H h3 n3 K12.b hl3
  have q12 : (eqR (.agg (lab h3 n3)) (.agg (lab h3 n3))).run Tryd.prog W12 = .ok true W12 := by
    have := run_eqR W12 h3 h3 n3 n3 hl3 hl3
    rw [decide_eq_true ⟨rfl, rfl⟩] at this
    exact this
  have CT : Hid (Calls Tryd.prog 15 #[v, v'] W12 fun e w' => e = .returned (.bool true) ∧ Below W12.heap.size W12 w') := same_any v v' L W12 ov ov' hL
  have B12 : Hid (Below w.heap.size w W12) := K12.bel
  clear hW12 K11 K12 b11 o11 ov ov' hz s9 K10
  go_wp2_with fail
  refine CT.out.mono ?_
  rintro e W13 ⟨rfl, b13⟩
  have bel13 : Below w.heap.size w W13 := B12.out.trans (b13.mono B12.out.size)
  go_wp2_with fail
  go_ret
  exact ⟨rfl, bel13⟩
end Go.Proofs.YtmfkhpledgnipaaDoor
