/- NoteInts: still. -/
import Derived.Test.YtnljnknnjahjkaaNiD
import Derived.Test.YtnljnknnjahjkaaNiV
namespace Go.Proofs.Ytnljnknnjahjkaa
open Go.RowKit
attribute [local go_sem ↓] toLdN
set_option maxRecDepth 100000 in
set_option maxHeartbeats 6400000 in
theorem still_any (B : Nat) (Q : Nat → Prop) : ∀ (k : Nat) (t c : Array Value) (d : Nat) (W : World), d ≤ 100 → (∀ j, j < B ∨ Q j → j < W.heap.size) → Tw B Q W k t c → Calls Try.prog 7 #[.agg t, .agg c, .int .i64 (d : Int)] W fun e w' => e = .returned (.bool true) ∧ Below W.heap.size W w'
  | 0, _, _, _, _, _, _, h => h.elim
  | k + 1, t, c, d, W, hd, hW, h => by
    have IH := still_any B Q k
    obtain ⟨kd, b, x, s, L, F, L', F', ln, lf, lt, ft, rfl, rfl, h3, h4, h5, h6, h7, h8, h9, h10⟩ := h
    obtain ⟨oL, cL, rfl, hL1, hL2, hL3⟩ := h3
    obtain ⟨oF, cF, rfl, hF1, hF2, hF3⟩ := h4
    obtain ⟨gl, cl, rfl, hl1, hl2, hl3, hl4, hl5⟩ := h5
    obtain ⟨gf, cf, rfl, hf1, hf2, hf3, hf4, hf5⟩ := h6
    rw [← h7] at hL1 ⊢
    rw [← h8] at hF1 ⊢
    obtain ⟨nl, hnl⟩ : ∃ n, n = lt.length := ⟨_, rfl⟩
    obtain ⟨nf, hnf⟩ : ∃ n, n = ft.length := ⟨_, rfl⟩
    rw [← hnl] at hl1 hl5 hL1 ⊢
    rw [← hnf] at hf1 hf5 hF1 ⊢
    have HN : Hid (nl = lt.length ∧ nf = ft.length ∧ lt.length = ln.length ∧ ft.length = lf.length) := ⟨hnl, hnf, h7, h8⟩
    clear hnl hnf h7 h8
    obtain ⟨W0, hW0⟩ : ∃ W0, (W.alloc (.cells (noteA kd b x s (.slice (some ⟨gl, 0, none⟩) nl cl) (.slice (some ⟨gf, 0, none⟩) nf cf)) 26)).alloc (.cells (noteA kd b x s (.slice oL nl cL) (.slice oF nf cF)) 26) = W0 := ⟨_, rfl⟩
    have z1 : (W.alloc (.cells (noteA kd b x s (.slice (some ⟨gl, 0, none⟩) nl cl) (.slice (some ⟨gf, 0, none⟩) nf cf)) 26)).heap.size = W.heap.size + 1 := by simp
    have r0 : W0.heap[W.heap.size]? = some (.cells (noteA kd b x s (.slice (some ⟨gl, 0, none⟩) nl cl) (.slice (some ⟨gf, 0, none⟩) nf cf)) 26 (0, 0)) := by rw [← hW0]; exact (heap_alloc_old _ _ (h := by simp)).trans (heap_alloc_new _ _)
    have r1 : W0.heap[W.heap.size + 1]? = some (.cells (noteA kd b x s (.slice oL nl cL) (.slice oF nf cF)) 26 (0, 0)) := by
      rw [← hW0]
      have := heap_alloc_new (W.alloc (.cells (noteA kd b x s (.slice (some ⟨gl, 0, none⟩) nl cl) (.slice (some ⟨gf, 0, none⟩) nf cf)) 26)) (.cells (noteA kd b x s (.slice oL nl cL) (.slice oF nf cF)) 26)
      rw [z1] at this
      exact this
    have b0 : Below W.heap.size W W0 := by rw [← hW0]; exact ((Below.refl _ W).alloc (Nat.le_refl _) _).alloc (by simp) _
    have a0 : W0.cell? ⟨W.heap.size, 0, none⟩ = some (.int .i64 kd) := by rw [cell_of_row _ _ _ _ _ _ r0]; rfl
    have a1 : W0.cell? ⟨W.heap.size, 1, none⟩ = some (.bool b) := by rw [cell_of_row _ _ _ _ _ _ r0]; rfl
    have a2 : W0.cell? ⟨W.heap.size, 2, none⟩ = some (.float .f64 x) := by rw [cell_of_row _ _ _ _ _ _ r0]; rfl
    have a3 : W0.cell? ⟨W.heap.size, 3, none⟩ = some (.string s) := by rw [cell_of_row _ _ _ _ _ _ r0]; rfl
    have a4 : W0.cell? ⟨W.heap.size, 4, none⟩ = some (.slice (some ⟨gl, 0, none⟩) nl cl) := by rw [cell_of_row _ _ _ _ _ _ r0]; rfl
    have a5 : W0.cell? ⟨W.heap.size, 5, none⟩ = some (.slice (some ⟨gf, 0, none⟩) nf cf) := by rw [cell_of_row _ _ _ _ _ _ r0]; rfl
    have c0 : W0.cell? ⟨W.heap.size + 1, 0, none⟩ = some (.int .i64 kd) := by rw [cell_of_row _ _ _ _ _ _ r1]; rfl
    have c1 : W0.cell? ⟨W.heap.size + 1, 1, none⟩ = some (.bool b) := by rw [cell_of_row _ _ _ _ _ _ r1]; rfl
    have c2 : W0.cell? ⟨W.heap.size + 1, 2, none⟩ = some (.float .f64 x) := by rw [cell_of_row _ _ _ _ _ _ r1]; rfl
    have c3 : W0.cell? ⟨W.heap.size + 1, 3, none⟩ = some (.string s) := by rw [cell_of_row _ _ _ _ _ _ r1]; rfl
    have c4 : W0.cell? ⟨W.heap.size + 1, 4, none⟩ = some (.slice oL nl cL) := by rw [cell_of_row _ _ _ _ _ _ r1]; rfl
    have c5 : W0.cell? ⟨W.heap.size + 1, 5, none⟩ = some (.slice oF nf cF) := by rw [cell_of_row _ _ _ _ _ _ r1]; rfl
    have HW0 : Hid _ := hW0
    by_cases hd80 : 80 < d
    · have hd' : (80 : Int) < (d : Int) := by omega
      have HB : Hid (Below W.heap.size W W0) := b0
      clear hW0 b0 IH hW h9 h10 hL3 hF3 hl4 hf4 hl5 hf5 r0 r1
      unfold noteA at *
      go_enter Try.func7, Try.ntmps7
      go_wp2
      go_ret
      rw [HW0.out]
      exact ⟨rfl, HB.out⟩
    have hd' : ¬ ((80 : Int) < (d : Int)) := by omega
    have HH : Hid ((∀ (t c : Array Value) (d : Nat) (W : World), d ≤ 100 → (∀ j, j < B ∨ Q j → j < W.heap.size) → Tw B Q W k t c → Calls Try.prog 7 #[.agg t, .agg c, .int .i64 (d : Int)] W fun e w' => e = .returned (.bool true) ∧ Below W.heap.size W w')) := IH
    have CN : Hid (∀ W, Calls Try.prog 9 #[.float .f64 x, .float .f64 x] W fun e w' => e = .returned (.bool true) ∧ w' = W) := fun W => number_any x W
    rw [← hW0] at a0 a1 a2 a3 a4 a5 c0 c1 c2 c3 c4 c5
    have H9 : Hid _ := h9
    have H10 : Hid _ := h10
    have HB : Hid _ := b0
    have H0 : Hid _ := hW
    have Hr0 : Hid _ := r0
    have Hr1 : Hid _ := r1
    have HL3 : Hid _ := hL3
    have HF3 : Hid _ := hF3
    have Hl4 : Hid _ := hl4
    have Hf4 : Hid _ := hf4
    clear h9 h10 hW IH hW0 r0 r1 b0 hL3 hF3 hl4 hf4
    unfold noteA at *
    go_enter Try.func7, Try.ntmps7
    go_wp2_with fail
    rw [HW0.out]
    refine Calls.mono (CN.out _) ?_
    rintro e w' ⟨rfl, hw'⟩
    have hw2 := hw'.symm
    subst hw2
    rw [HW0.out] at a0 a1 a2 a3 a4 a5 c0 c1 c2 c3 c4 c5
    have a4k : ∀ k, (W0.drewN k).cell? ⟨W.heap.size, 4, none⟩ = some (.slice (some ⟨gl, 0, none⟩) nl cl) := fun k => a4
    have a5k : ∀ k, (W0.drewN k).cell? ⟨W.heap.size, 5, none⟩ = some (.slice (some ⟨gf, 0, none⟩) nf cf) := fun k => a5
    have m5 : ∀ k, (W0.drewN k).cell? ⟨gl, nl * 6, none⟩ = some (.int .i64 99) := fun k => (World.cell?_of_block (w := W) (a := ⟨gl, nl * 6, none⟩) (HB.out.block gl (H0.out gl (.inr hl3)))).trans hl5
    have n5 : ∀ k, (W0.drewN k).cell? ⟨gf, nf * 7, none⟩ = some (.string ⟨#[109, 97, 114, 107]⟩) := fun k => (World.cell?_of_block (w := W) (a := ⟨gf, nf * 7, none⟩) (HB.out.block gf (H0.out gf (.inr hf3)))).trans hf5
    have w1 : IntKind.i64.wrap ((nl : Int) + 1) = ((nl + 1 : Nat) : Int) := by rw [IntKind.wrap_i64]; simp only [maxLen] at hl2; omega
    have w2 : IntKind.i64.wrap ((nf : Int) + 1) = ((nf + 1 : Nat) : Int) := by rw [IntKind.wrap_i64]; simp only [maxLen] at hf2; omega
    have i1 : ((nl : Int) + 1) ≤ (cl : Int) := by omega
    have i2 : ((nf : Int) + 1) ≤ (cf : Int) := by omega
    have i3 : (0 : Int) ≤ (nl : Int) := by omega
    have i4 : (0 : Int) ≤ (nf : Int) := by omega
    have i5 : (0 : Int) ≤ (nl : Int) + 1 := by omega
    have i6 : (0 : Int) ≤ (nf : Int) + 1 := by omega
    have j1 : ((nl : Int) + 1).toNat = nl + 1 := by omega
    have j2 : ((nf : Int) + 1).toNat = nf + 1 := by omega
    have j3 : (nl : Int) < (nl : Int) + 1 := by omega
    have j4 : (nf : Int) < (nf : Int) + 1 := by omega
    go_wp2_with fail
    go_quiet (fail)
    clear a4k a5k m5 n5 w1 w2 i1 i2 i3 i4 i5 i6 j1 j2 j3 j4
    go_wp2_with fail
    have HC : Hid (Below W0.heap.size W0 (W0.drewN nq)) := Below.drewN' (Below.refl _ W0) _
    have HA : Hid (W0.heap[W.heap.size]? = some (.cells #[.int .i64 kd, .bool b, .float .f64 x, .string s, .slice (some ⟨gl, 0, none⟩) nl cl, .slice (some ⟨gf, 0, none⟩) nf cf] 26 (0, 0)) ∧ W0.heap[W.heap.size + 1]? = some (.cells #[.int .i64 kd, .bool b, .float .f64 x, .string s, .slice oL nl cL, .slice oF nf cF] 26 (0, 0)) ∧ W.heap.size + 2 = W0.heap.size) := ⟨Hr0.out, Hr1.out, by rw [← HW0.out]; simp⟩
    clear a0 a1 a2 a3 a4 a5 c0 c1 c2 c3 c4 c5 Hr0 Hr1 CN
    have FB : Hid (∀ X, Below W0.heap.size W0 X → (∀ j, j < B ∨ Q j → X.heap[j]? = W.heap[j]?) ∧ (∀ j, j < B ∨ Q j → j < X.heap.size) ∧ X.cell? ⟨W.heap.size, 4, none⟩ = some (.slice (some ⟨gl, 0, none⟩) nl cl) ∧ X.cell? ⟨W.heap.size, 5, none⟩ = some (.slice (some ⟨gf, 0, none⟩) nf cf) ∧ X.cell? ⟨W.heap.size + 1, 4, none⟩ = some (.slice oL nl cL) ∧ X.cell? ⟨W.heap.size + 1, 5, none⟩ = some (.slice oF nf cF)) := fun X hX => by
      have hz := HA.out.2.2
      have k0 : X.heap[W.heap.size]? = _ := (hX.block _ (by omega)).trans HA.out.1
      have k1 : X.heap[W.heap.size + 1]? = _ := (hX.block _ (by omega)).trans HA.out.2.1
      refine ⟨fun j hj => (hX.block j (by have := H0.out j hj; omega)).trans (HB.out.block j (H0.out j hj)), fun j hj => by have h1 := H0.out j hj; have h2 := hX.size; omega, ?_, ?_, ?_, ?_⟩
      · rw [cell_of_row _ _ _ _ _ _ k0]; rfl
      · rw [cell_of_row _ _ _ _ _ _ k0]; rfl
      · rw [cell_of_row _ _ _ _ _ _ k1]; rfl
      · rw [cell_of_row _ _ _ _ _ _ k1]; rfl
    go_loopw [7] (fun iv wr => ∃ (i : Nat), iv = .int .i64 (i : Int) ∧ i ≤ nl ∧ Hid (Below W0.heap.size W0 wr)) (fun iv _ => nl - (intOf iv).toNat)
    case atStart => exact ⟨0, rfl, Nat.zero_le _, HC⟩
    case round =>
      obtain ⟨i, rfl, hi, HR⟩ := hrel
      have a4 := (FB.out wr HR.out).2.2.1
      by_cases hlt : i < nl
      · have hlt' : (i : Int) < (nl : Int) := by omega
        have hlL : i < lt.length := by rw [← HN.out.1]; exact hlt
        have hlN : i < ln.length := by rw [← HN.out.2.2.1]; exact hlL
        obtain ⟨a, ha⟩ : ∃ a, lt[i]? = some a := ⟨_, List.getElem?_eq_getElem hlL⟩
        obtain ⟨c, hc⟩ : ∃ c, ln[i]? = some c := ⟨_, List.getElem?_eq_getElem hlN⟩
        obtain ⟨g, o, hoL, hgB, hcz, hcr⟩ := HL3.out i c hc
        obtain ⟨haz, har⟩ := Hl4.out i a ha
        have C : Hid (∀ X, Below W0.heap.size W0 X → Calls Try.prog 7 #[.agg a, .agg c, .int .i64 ((d + 1 : Nat) : Int)] X fun e w' => e = .returned (.bool true) ∧ Below W0.heap.size W0 w') := fun X hX =>
          (HH.out a c (d + 1) X (by omega) (FB.out X hX).2.1 ((H9.out i a c ha hc).keep (W' := X) (fun j hj => (FB.out X hX).1 j (.inl hj)) (fun j hj => (FB.out X hX).1 j (.inr hj)) (fun _ h => h))).mono fun e w' ⟨h1, h2⟩ => ⟨h1, hX.trans (h2.mono hX.size)⟩
        have l1 : Hid (∀ X, Below W0.heap.size W0 X → (Instr.loadAt 26 (.pointer (some ⟨gl, i * 6, none⟩))).run Try.prog X = .ok (.agg a) X) := fun X hX => ld_mid X gl (i * 6) a haz (range_keep har ((FB.out X hX).1 gl (.inr hl3)))
        have l2 : Hid (∀ X, Below W0.heap.size W0 X → (Instr.loadAt 26 (.pointer (some ⟨g, o + i * 6, none⟩))).run Try.prog X = .ok (.agg c) X) := fun X hX => ld_mid X g (o + i * 6) c hcz (range_keep hcr ((FB.out X hX).1 g (.inl hgB)))
        subst hoL
        have w1 : IntKind.i64.wrap ((d : Int) + 1) = ((d + 1 : Nat) : Int) := by rw [IntKind.wrap_i64]; omega
        have w2 : IntKind.i64.wrap ((i : Int) + 1) = (i : Int) + 1 := by rw [IntKind.wrap_i64]; simp only [maxLen] at hl2; omega
        have HI : Hid (i < nl ∧ IntKind.i64.wrap ((d : Int) + 1) = ((d + 1 : Nat) : Int)) := ⟨hlt, w1⟩
        clear hcr har hlL hlN ha hc hi hlt haz hcz w1
        go_wp2_with fail
        refine wp_region_vals (ops := reg10) (V := V10 W.heap.size (W.heap.size + 1) gl nl cl g o cL i d a c) (S := fun _ X => Below W0.heap.size W0 X) (by kernel_rfl) (fun i o ho => (okR_at okR10 ho).1) (fun i j o oj d ho hj q1 q2 => (okR_at okR10 ho).2.2 j oj d hj q1 q2) (fun i o d ho q => (okR_at okR10 ho).2.1 d q)
          (step10 _ W.heap.size (W.heap.size + 1) gl nl cl g o cL i d a c _ _ rfl rfl rfl rfl (fun _ _ _ _ h => h) (fun _ X h _ _ _ => C.out X h) (fun _ X h _ _ _ => ⟨X, ld23 X (FB.out X h).2.2.1, h⟩) (fun _ X h _ _ _ => ⟨X, l1.out X h, h⟩) (fun _ X h _ _ _ => ⟨X, ld23 X (FB.out X h).2.2.2.2.1, h⟩) (fun _ X h _ _ _ => ⟨X, l2.out X h, h⟩) HI.out.2 (by omega) (by have := HI.out.1; omega)) HR.out.drew (fun wE hE => ?_)
        rw [put10]
        have HE : Hid (Below W0.heap.size W0 wE) := hE
        clear hE C l1 l2 a4
        simp only [V10]
        go_wp2_with fail
        go_roundw
        case rel => exact ⟨i + 1, by go_num, HI.out.1, HE⟩
        case measure => have := HI.out.1; simp [intOf]; omega
      · have hlt' : ¬ ((i : Int) < (nl : Int)) := by omega
        clear hlt
        go_wp2_with fail
        clear a4
        go_loopw [8] (fun iv wr => ∃ (i : Nat), iv = .int .i64 (i : Int) ∧ i ≤ nf ∧ Hid (Below W0.heap.size W0 wr)) (fun iv _ => nf - (intOf iv).toNat)
        case atStart => exact ⟨0, rfl, Nat.zero_le _, HR⟩
        case round =>
          obtain ⟨j, rfl, hj, HR2⟩ := hrel
          have a5 := (FB.out wr HR2.out).2.2.2.1
          by_cases hlt : j < nf
          · have hlt' : (j : Int) < (nf : Int) := by omega
            have hlL : j < ft.length := by rw [← HN.out.2.1]; exact hlt
            have hlN : j < lf.length := by rw [← HN.out.2.2.2]; exact hlL
            obtain ⟨a, ha⟩ : ∃ a, ft[j]? = some a := ⟨_, List.getElem?_eq_getElem hlL⟩
            obtain ⟨c, hc⟩ : ∃ c, lf[j]? = some c := ⟨_, List.getElem?_eq_getElem hlN⟩
            obtain ⟨g, o, hoF, hgB, hcz, hcr⟩ := HF3.out j c hc
            obtain ⟨haz, har⟩ := Hf4.out j a ha
            obtain ⟨nm, r, r', rfl, rfl, hTw⟩ := H10.out j a c ha hc
            have C : Hid (∀ X, Below W0.heap.size W0 X → Calls Try.prog 7 #[.agg r, .agg r', .int .i64 ((d + 1 : Nat) : Int)] X fun e w' => e = .returned (.bool true) ∧ Below W0.heap.size W0 w') := fun X hX =>
              (HH.out r r' (d + 1) X (by omega) (FB.out X hX).2.1 (hTw.keep (W' := X) (fun j hj => (FB.out X hX).1 j (.inl hj)) (fun j hj => (FB.out X hX).1 j (.inr hj)) (fun _ h => h))).mono fun e w' ⟨h1, h2⟩ => ⟨h1, hX.trans (h2.mono hX.size)⟩
            have hn1 : Hid (∀ X, Below W0.heap.size W0 X → X.cell? ⟨gf, j * 7, none⟩ = some (.string nm)) := fun X hX => range_keep har ((FB.out X hX).1 gf (.inr hf3)) 0 (.string nm) (by simp)
            have hn2 : Hid (∀ X, Below W0.heap.size W0 X → X.cell? ⟨g, o + j * 7, none⟩ = some (.string nm)) := fun X hX => range_keep hcr ((FB.out X hX).1 g (.inl hgB)) 0 (.string nm) (by simp)
            have l1 : Hid (∀ X, Below W0.heap.size W0 X → (Instr.loadAt 26 (.pointer (some ⟨gf, j * 7 + 1, none⟩))).run Try.prog X = .ok (.agg r) X) := fun X hX => ld_mid X gf (j * 7 + 1) r (by simp at haz; omega) (tail_range (range_keep har ((FB.out X hX).1 gf (.inr hf3))))
            have l2 : Hid (∀ X, Below W0.heap.size W0 X → (Instr.loadAt 26 (.pointer (some ⟨g, o + j * 7 + 1, none⟩))).run Try.prog X = .ok (.agg r') X) := fun X hX => ld_mid X g (o + j * 7 + 1) r' (by simp at hcz; omega) (tail_range (range_keep hcr ((FB.out X hX).1 g (.inl hgB))))
            subst hoF
            have w1 : IntKind.i64.wrap ((d : Int) + 1) = ((d + 1 : Nat) : Int) := by rw [IntKind.wrap_i64]; omega
            have w2 : IntKind.i64.wrap ((j : Int) + 1) = (j : Int) + 1 := by rw [IntKind.wrap_i64]; simp only [maxLen] at hf2; omega
            have HI : Hid (j < nf ∧ IntKind.i64.wrap ((d : Int) + 1) = ((d + 1 : Nat) : Int)) := ⟨hlt, w1⟩
            clear hcr har hlL hlN ha hc hj hlt haz hcz w1 hTw
            go_wp2_with fail
            refine wp_region_vals (ops := reg15) (V := V15 W.heap.size (W.heap.size + 1) gf nf cf g o cF j d nm r r') (S := fun _ X => Below W0.heap.size W0 X) (by kernel_rfl) (fun i o ho => (okR_at okR15 ho).1) (fun i j o oj d ho hj q1 q2 => (okR_at okR15 ho).2.2 j oj d hj q1 q2) (fun i o d ho q => (okR_at okR15 ho).2.1 d q)
              (step15 _ W.heap.size (W.heap.size + 1) gf nf cf g o cF j d nm r r' _ _ rfl rfl rfl rfl (fun _ _ _ _ h => h) (fun _ X h _ _ _ => C.out X h) (fun _ X h _ _ _ => ⟨X, ld24 X (FB.out X h).2.2.2.1, h⟩) (fun _ X h _ _ _ => ⟨X, ld9 X (hn1.out X h), h⟩) (fun _ X h _ _ _ => ⟨X, ld24 X (FB.out X h).2.2.2.2.2, h⟩) (fun _ X h _ _ _ => ⟨X, ld9 X (hn2.out X h), h⟩) (fun _ X h _ _ _ => ⟨X, ld24 X (FB.out X h).2.2.2.1, h⟩) (fun _ X h _ _ _ => ⟨X, l1.out X h, h⟩) (fun _ X h _ _ _ => ⟨X, ld24 X (FB.out X h).2.2.2.2.2, h⟩) (fun _ X h _ _ _ => ⟨X, l2.out X h, h⟩) HI.out.2 (by omega) (by have := HI.out.1; omega)) HR2.out.drew (fun wE hE => ?_)
            rw [put15]
            have HE : Hid (Below W0.heap.size W0 wE) := hE
            clear hE C l1 l2 a5 hn1 hn2
            simp only [V15]
            go_wp2_with fail
            go_roundw
            case rel => exact ⟨j + 1, by go_num, HI.out.1, HE⟩
            case measure => have := HI.out.1; simp [intOf]; omega
          · have hlt' : ¬ ((j : Int) < (nf : Int)) := by omega
            clear hlt
            go_wp2
            go_ret
            exact ⟨rfl, HB.out.trans (HR2.out.mono HB.out.size)⟩
end Go.Proofs.Ytnljnknnjahjkaa
