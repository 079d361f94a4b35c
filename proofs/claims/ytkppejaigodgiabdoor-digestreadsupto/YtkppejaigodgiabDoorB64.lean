/- Base 64: the code's. -/
import Derived.Test.YtkppejaigodgiabDoorSl
namespace Go.Proofs.YtkppejaigodgiabDoor
open Go.RowKit
attribute [local go_sem ↓] toMk toSl
theorem byl_cut_l {w : World} {o : Option Addr} {b : List Nat} {c : Nat} (hb : Byl (.slice o b.length c) b w) (h : Nat) (hh : h ≤ b.length) : Byl (sliced o h b.length c 1) (b.drop h) w := by
  have hl : (b.drop h).length = b.length - h := List.length_drop
  rcases hb with ⟨h1, rfl⟩ | ⟨bk, off, cap, h1, h2, h3, h4, h5⟩
  · simp only [Value.slice.injEq] at h1
    obtain ⟨rfl, _, rfl⟩ := h1
    have : h = 0 := by simpa using hh
    subst this
    exact .inl ⟨rfl, rfl⟩
  · simp only [Value.slice.injEq, true_and] at h1
    obtain ⟨rfl, rfl⟩ := h1
    by_cases hc : c = h
    · refine .inr ⟨bk, off, c - h, ?_, by omega, by omega, h4, fun j hj => by omega⟩
      rw [hl]
      simp [sliced, hc]
    · refine .inr ⟨bk, off + h, c - h, ?_, by omega, by omega, h4, fun j hj => ?_⟩
      · rw [hl]
        simp [sliced, hc, Addr.add]
      · rw [Nat.add_assoc, h5 (h + j) (by omega)]
        simp [List.getD]
theorem byl_cut_h {w : World} {o : Option Addr} {b : List Nat} {c : Nat} (hb : Byl (.slice o b.length c) b w) (h : Nat) (hh : h ≤ b.length) : Byl (sliced o 0 h c 1) (b.take h) w := by
  have hl : (b.take h).length = h := by rw [List.length_take]; omega
  rcases hb with ⟨h1, rfl⟩ | ⟨bk, off, cap, h1, h2, h3, h4, h5⟩
  · simp only [Value.slice.injEq] at h1
    obtain ⟨rfl, _, rfl⟩ := h1
    have : h = 0 := by simpa using hh
    subst this
    exact .inl ⟨rfl, rfl⟩
  · simp only [Value.slice.injEq, true_and] at h1
    obtain ⟨rfl, rfl⟩ := h1
    refine .inr ⟨bk, off, c, ?_, by omega, h3, h4, fun j hj => ?_⟩
    · rw [hl]
      simp [sliced, Addr.add]
    · rw [hl] at hj
      rw [h5 j (by omega)]
      simp [List.getD, hj, show j < b.length by omega]
theorem sliced3 (o : Option Addr) (n c : Nat) : ∃ o' c', sliced o 3 n c 1 = .slice o' (n - 3) c' := ⟨_, _, rfl⟩
theorem u8_and3 (a : Nat) (h : a < 256) : bits BinOp.and IntKind.u8 (a : Int) 3 = ((a % 4 : Nat) : Int) := by
  rw [show (3 : Int) = ((3 : Nat) : Int) from rfl, u8_and_nat a 3 h (by decide), Nat.and_two_pow_sub_one_eq_mod a 2]
theorem u8_andf (a : Nat) (h : a < 256) : bits BinOp.and IntKind.u8 (a : Int) 15 = ((a % 16 : Nat) : Int) := by
  rw [show (15 : Int) = ((15 : Nat) : Int) from rfl, u8_and_nat a 15 h (by decide), Nat.and_two_pow_sub_one_eq_mod a 4]
theorem u8_and3f (a : Nat) (h : a < 256) : bits BinOp.and IntKind.u8 (a : Int) 63 = ((a % 64 : Nat) : Int) := by
  rw [show (63 : Int) = ((63 : Nat) : Int) from rfl, u8_and_nat a 63 h (by decide), Nat.and_two_pow_sub_one_eq_mod a 6]
theorem or_add (x y i : Nat) (hx : x < 256) (hy : y < 256) (hxi : 2 ^ i * (x / 2 ^ i) = x) (hyi : y < 2 ^ i) : bits BinOp.or IntKind.u8 (x : Int) (y : Int) = ((x + y : Nat) : Int) := by
  rw [u8_or_nat x y hx hy]
  have := Nat.two_pow_add_eq_or_of_lt hyi (x / 2 ^ i)
  rw [hxi] at this
  rw [this]
set_option maxRecDepth 100000 in
set_option maxHeartbeats 3200000 in
theorem b64C_any (s : List Nat) (hb : Byt s) (hl : s.length ≤ 1099511627776) (v : Value) (w : World) (hv : Byl v s w) (ht : Tx w) :
    Calls Tryd.prog 14 #[v] w fun e w' => e = .returned (txt (b64L s)) ∧ Below w.heap.size w w' := by
  obtain ⟨i0, hi0, hz0, hz1, hz2⟩ := info_parts info5
  obtain ⟨o, c, rfl, _, _, _⟩ := hv.form
  obtain ⟨n, hn⟩ : ∃ n, n = (s.length + 2) / 3 * 4 := ⟨_, rfl⟩
  have hn1 : n ≤ 2199023255552 := by omega
  obtain ⟨m, hm⟩ : ∃ m, m = (s.length + 2) / 3 := ⟨_, rfl⟩
  have hmI : ((s.length : Int) + 2) / 3 = (m : Int) := by omega
  have hmT : Int.tdiv ((s.length : Int) + 2) 3 = (m : Int) := by rw [Int.tdiv_eq_ediv_of_nonneg (by omega)]; exact hmI
  have hmW : IntKind.i64.wrap (m : Int) = (m : Int) := by rw [IntKind.wrap_i64]; omega
  have hw2 : IntKind.i64.wrap ((s.length : Int) + 2) = (s.length : Int) + 2 := by rw [IntKind.wrap_i64]; omega
  have hnI : (m : Int) * 4 = (n : Int) := by omega
  have hnW : IntKind.i64.wrap (n : Int) = (n : Int) := by rw [IntKind.wrap_i64]; omega
  obtain ⟨w0, hmk, hown0, bel0⟩ := run_mk0 w n (by omega)
  have HO0 : Hid (w0.ownsRow w.heap.size 5 1 (.slice (some ⟨w.heap.size, 0, none⟩) 0 n) 0 (bs []).toList) := hown0
  have HV : Hid (Byl (.slice o s.length c) s w) := hv
  clear hown0 hm hn hv
  have hsz := ht.sz
  go_enter Tryd.func14, Tryd.ntmps14
  go_wp2_with fail
  go_loopw [0, 3] (fun bv ov wr => ∃ k o' c', 3 * k ≤ s.length ∧ bv = .slice o' (s.length - 3 * k) c' ∧ Hid (Byl (.slice o' (s.length - 3 * k) c') (s.drop (3 * k)) w) ∧ Hid (wr.ownsRow w.heap.size 5 1 ov (4 * k) (bs (b64L (s.take (3 * k)))).toList) ∧ Below w.heap.size w wr)
    (fun bv _ _ => match bv with | .slice _ n _ => n | _ => 0)
  case atStart => exact ⟨0, o, c, by omega, rfl, HV, HO0, bel0⟩
  case round =>
    clear HV
    obtain ⟨k, o', c', hk, rfl, HV, hown, hbl⟩ := hrel
    have hbz := hbl.size
    have hdl : (s.drop (3 * k)).length = s.length - 3 * k := List.length_drop
    obtain ⟨N, hN⟩ : ∃ N, N = s.length - 3 * k := ⟨_, rfl⟩
    rw [← hN] at HV hdl ⊢
    have hgd : ∀ j, (s.drop (3 * k)).getD j 0 = s.getD (3 * k + j) 0 := fun j => by simp [List.getD, List.getElem?_drop]
    have hfm : 0 < N → ∃ b off, o' = some ⟨b, off, none⟩ ∧ b < w.heap.size ∧ ∀ j, j < N → w.cell? ⟨b, off + j, none⟩ = some (.int .u8 ((s.getD (3 * k + j) 0 : Nat) : Int)) := by
      intro h0
      rcases HV.out with ⟨_, h⟩ | ⟨b, off, cap, h1, h2, h3, h4, h5⟩
      · rw [h] at hdl; simp at hdl; omega
      · simp only [Value.slice.injEq] at h1
        refine ⟨b, off, h1.1, h4, fun j hj => ?_⟩
        rw [h5 j (by omega), hgd]
    by_cases h3 : 3 ≤ N
    · obtain ⟨b1, o1, rfl, hb1, hc1⟩ := hfm (by omega)
      have h3' : (3 : Int) ≤ (N : Int) := by omega
      have hN0 : (0 : Int) < (N : Int) := by omega
      have hN1 : (1 : Int) < (N : Int) := by omega
      have hN2 : (2 : Int) < (N : Int) := by omega
      obtain ⟨x, hx⟩ : ∃ x, x = s.getD (3 * k) 0 := ⟨_, rfl⟩
      obtain ⟨y, hy⟩ : ∃ y, y = s.getD (3 * k + 1) 0 := ⟨_, rfl⟩
      obtain ⟨z, hz⟩ : ∃ z, z = s.getD (3 * k + 2) 0 := ⟨_, rfl⟩
      have hx256 : x < 256 := by rw [hx]; exact getT hb _
      have hy256 : y < 256 := by rw [hy]; exact getT hb _
      have hz256 : z < 256 := by rw [hz]; exact getT hb _
      have cx : wr.cell? ⟨b1, o1, none⟩ = some (.int .u8 (x : Int)) := by rw [hx]; exact (World.cell?_of_block (w := w) (hbl.block b1 hb1)).trans (hc1 0 (by omega))
      have cy : wr.cell? ⟨b1, o1 + 1, none⟩ = some (.int .u8 (y : Int)) := by rw [hy]; exact (World.cell?_of_block (w := w) (hbl.block b1 hb1)).trans (hc1 1 (by omega))
      have cz : wr.cell? ⟨b1, o1 + 2, none⟩ = some (.int .u8 (z : Int)) := by rw [hz]; exact (World.cell?_of_block (w := w) (hbl.block b1 hb1)).trans (hc1 2 (by omega))
      obtain ⟨d0, hd0⟩ : ∃ d, d = x / 4 := ⟨_, rfl⟩
      obtain ⟨x3, hx3⟩ : ∃ d, d = x % 4 := ⟨_, rfl⟩
      obtain ⟨s3, hs3⟩ : ∃ d, d = x3 * 16 := ⟨_, rfl⟩
      obtain ⟨y4, hy4⟩ : ∃ d, d = y / 16 := ⟨_, rfl⟩
      obtain ⟨d1, hd1⟩ : ∃ d, d = s3 + y4 := ⟨_, rfl⟩
      obtain ⟨yf, hyf⟩ : ∃ d, d = y % 16 := ⟨_, rfl⟩
      obtain ⟨sf, hsf⟩ : ∃ d, d = yf * 4 := ⟨_, rfl⟩
      obtain ⟨z6, hz6⟩ : ∃ d, d = z / 64 := ⟨_, rfl⟩
      obtain ⟨d2, hd2⟩ : ∃ d, d = sf + z6 := ⟨_, rfl⟩
      obtain ⟨d3, hd3⟩ : ∃ d, d = z % 64 := ⟨_, rfl⟩
      have q0 : (x : Int) / 4 = (d0 : Int) := by omega
      have q1 : bits BinOp.and IntKind.u8 (x : Int) 3 = (x3 : Int) := by rw [hx3]; exact u8_and3 x hx256
      have q2 : (x3 : Int) * 16 % 256 = (s3 : Int) := by omega
      have q2' : IntKind.u8.wrap ((x3 : Int) * 16) = (s3 : Int) := by rw [IntKind.wrap_u8']; exact q2
      have q6' : IntKind.u8.wrap ((yf : Int) * 4) = (sf : Int) := by rw [IntKind.wrap_u8']; omega
      have hN0' : 0 < N := by omega
      have q3 : (y : Int) / 16 = (y4 : Int) := by omega
      have q4 : bits BinOp.or IntKind.u8 (s3 : Int) (y4 : Int) = (d1 : Int) := by rw [hd1]; exact or_add s3 y4 4 (by omega) (by omega) (by omega) (by omega)
      have q5 : bits BinOp.and IntKind.u8 (y : Int) 15 = (yf : Int) := by rw [hyf]; exact u8_andf y hy256
      have q6 : (yf : Int) * 4 % 256 = (sf : Int) := by omega
      have q7 : (z : Int) / 64 = (z6 : Int) := by omega
      have q8 : bits BinOp.or IntKind.u8 (sf : Int) (z6 : Int) = (d2 : Int) := by rw [hd2]; exact or_add sf z6 2 (by omega) (by omega) (by omega) (by omega)
      have q9 : bits BinOp.and IntKind.u8 (z : Int) 63 = (d3 : Int) := by rw [hd3]; exact u8_and3f z hz256
      have r0 : (0 : Int) ≤ (d0 : Int) := by omega
      have r1 : (0 : Int) ≤ (d1 : Int) := by omega
      have r2 : (0 : Int) ≤ (d2 : Int) := by omega
      have r3 : (0 : Int) ≤ (d3 : Int) := by omega
      have t0 : (d0 : Int) < 64 := by omega
      have t1 : (d1 : Int) < 64 := by omega
      have t2 : (d2 : Int) < 64 := by omega
      have t3 : (d3 : Int) < 64 := by omega
      have htr : Tx wr := ht.below hbl hsz
      have e0 := htr.c d0 (by omega)
      have e1 := htr.c d1 (by omega)
      have e2 := htr.c d2 (by omega)
      have e3 := htr.c d3 (by omega)
      have HC : Hid (ch64 x y z 3 = [g64 d0, g64 d1, g64 d2, g64 d3]) := by
        show _ = _
        simp only [ch64]
        rw [if_pos (by omega), if_pos (by omega), ← hx3, ← hs3, ← hy4, ← hd1, ← hd0, ← hyf, ← hsf, ← hz6, ← hd2, ← hd3]
      have HX : Hid (x = s.getD (3 * k) 0 ∧ y = s.getD (3 * k + 1) 0 ∧ z = s.getD (3 * k + 2) 0) := ⟨hx, hy, hz⟩
      have HN : Hid (N = s.length - 3 * k) := hN
      have hk4 : 4 * k + 4 ≤ 2199023255552 := by omega
      clear hd0 hx3 hs3 hy4 hd1 hyf hsf hz6 hd2 hd3 hx hy hz hN hfm hc1 hgd
      go_wp2_with fail
      have hmx : 4 * k + 4 ≤ maxLen := by unfold maxLen; omega
      have hby : (4 * k + 4) * 1 ≤ 140737488355328 := by omega
      have hne : u3.ownBlock ≠ some 2 := by
        intro h
        have := (hown.out.lt _ h).1
        omega
      have hne1 : u3.ownBlock ≠ some b1 := by
        intro h
        have := (hown.out.lt _ h).1
        omega
      have h2s : 2 < wr.heap.size := by omega
      have hbs : b1 < wr.heap.size := by omega
      go_region_held3 (fun w' => w'.cell? ⟨2, d0, none⟩ = some (.int .u8 ((g64 d0 : Nat) : Int)) ∧ w'.cell? ⟨2, d1, none⟩ = some (.int .u8 ((g64 d1 : Nat) : Int)) ∧ w'.cell? ⟨2, d2, none⟩ = some (.int .u8 ((g64 d2 : Nat) : Int)) ∧ w'.cell? ⟨2, d3, none⟩ = some (.int .u8 ((g64 d3 : Nat) : Int)) ∧ w'.cell? ⟨b1, o1, none⟩ = some (.int .u8 (x : Int)) ∧ w'.cell? ⟨b1, o1 + 1, none⟩ = some (.int .u8 (y : Int)) ∧ w'.cell? ⟨b1, o1 + 2, none⟩ = some (.int .u8 (z : Int)))
        (first
          | (refine ⟨?_, ?_, ?_, ?_, ?_, ?_, ?_⟩ <;> first
              | (rw [hgrow.cell_far _ (by simp; omega) (Ne.symm hne)]; simp_all only [World.cell?_drew]; done)
              | (rw [hgrow.cell_far _ (by simp; omega) (Ne.symm hne1)]; simp_all only [World.cell?_drew]; done))
          | go_keep)
        ((refine step_append_lies _ (by rfl) _ _ _ (by rfl) w.heap.size 5 i0 _ 1 1 Tryd.underlying22 hi0 hz0 hz1 hz2 rfl (by omega) u3 (4 * k) _ (by rfl) ((hown.out.alloc _).drew)
            ⟨wr.heap.size, 0, none⟩ 4 4 _ (by rfl) (by rfl) (World.news_of_block (t := 5) (fr := (0, 0)) (heap_alloc_new wr _)) (by simp [Value.oneCell'])
            (by omega) hmx hby (by simp; omega) (wr.heap.size + 1) (by simp) ?_; intro gg cap w1 hown1 hgrow hat hlt2))
      all_goals
        obtain ⟨o2, c2, hsl⟩ := sliced3 (some ⟨b1, o1, none⟩) N c'
        have hcut : (slR (.slice (some ⟨b1, o1, none⟩) N c') (some (.int .i64 3)) none none).run Tryd.prog w1 = .ok (.slice o2 (N - 3) c2) w1 := by rw [← hsl]; exact run_cut_l w1 _ N c' 3 h3
        have hN3 : N - 3 = s.length - 3 * (k + 1) := by have := HN.out; omega
        have hby2 : Hid (Byl (.slice o2 (N - 3) c2) (s.drop (3 * (k + 1))) w) := by
          have hV := HV.out
          rw [← hdl] at hV
          have h4 := byl_cut_l hV 3 (by rw [hdl]; exact h3)
          rw [hdl, hsl, List.drop_drop] at h4
          exact h4
        have hownF : Hid (w1.ownsRow w.heap.size 5 1 (Value.slice (some ⟨gg, 0, none⟩) (4 * k + 4) cap) (4 * (k + 1)) (bs (b64L (s.take (3 * (k + 1))))).toList) := by
          show World.ownsRow _ _ _ _ _ _ _
          obtain ⟨hx, hy, hz⟩ := HX.out
          rw [show 3 * (k + 1) = 3 * k + 3 by omega, b64L_step s k (by have := HN.out; omega), ← hx, ← hy, ← hz, HC.out, bs_app]
          exact hown1
        have hbl1 : Below w.heap.size w w1 := below_grown ((hbl.alloc (by omega) _).drew) hgrow (by simp; omega) (fun g hg => by have := (hown.out.lt g hg).1; omega)
        clear hown1 hgrow hat HV hsl
        go_wp2
        go_roundw
        case rel => exact ⟨k + 1, o2, c2, by have := HN.out; omega, rfl, by rw [← hN3]; exact hby2, hownF, hbl1⟩
        case measure =>
          show s.length - 3 * (k + 1) < N
          omega
    · have HN : Hid (N = s.length - 3 * k) := hN
      have hN012 : N = 0 ∨ N = 1 ∨ N = 2 := by omega
      have hk4 : 4 * k + 4 ≤ 2199023255552 := by omega
      have htr : Tx wr := ht.below hbl hsz
      clear hN hgd
      rcases hN012 with rfl | rfl | rfl
      · have hs0 : s.take (3 * k) = s := List.take_of_length_le (by have := HN.out; omega)
        have ho := hown.out
        rw [hs0] at ho
        have hcv := conv_own ho
        clear ho hs0 hfm
        go_wp2
        go_ret
        exact ⟨rfl, hbl⟩
      · obtain ⟨b1, o1, rfl, hb1, hc1⟩ := hfm (by omega)
        obtain ⟨x, hx⟩ : ∃ x, x = s.getD (3 * k) 0 := ⟨_, rfl⟩
        have hx256 : x < 256 := by rw [hx]; exact getT hb _
        have cx : wr.cell? ⟨b1, o1, none⟩ = some (.int .u8 (x : Int)) := by rw [hx]; exact (World.cell?_of_block (w := w) (hbl.block b1 hb1)).trans (hc1 0 (by omega))
        have hy0 : s.getD (3 * k + 1) 0 = 0 := by rw [List.getD, List.getElem?_eq_none (by have := HN.out; omega)]; rfl
        have hz0' : s.getD (3 * k + 2) 0 = 0 := by rw [List.getD, List.getElem?_eq_none (by have := HN.out; omega)]; rfl
        obtain ⟨d0, hd0⟩ : ∃ d, d = x / 4 := ⟨_, rfl⟩
        obtain ⟨x3, hx3⟩ : ∃ d, d = x % 4 := ⟨_, rfl⟩
        obtain ⟨d1, hd1⟩ : ∃ d, d = x3 * 16 := ⟨_, rfl⟩
        have q0 : (x : Int) / 4 = (d0 : Int) := by omega
        have q1 : bits BinOp.and IntKind.u8 (x : Int) 3 = (x3 : Int) := by rw [hx3]; exact u8_and3 x hx256
        have q2 : (x3 : Int) * 16 % 256 = (d1 : Int) := by omega
        have q2' : IntKind.u8.wrap ((x3 : Int) * 16) = (d1 : Int) := by rw [IntKind.wrap_u8']; exact q2
        have r0 : (0 : Int) ≤ (d0 : Int) := by omega
        have r1 : (0 : Int) ≤ (d1 : Int) := by omega
        have t0 : (d0 : Int) < 64 := by omega
        have t1 : (d1 : Int) < 64 := by omega
        have e0 := htr.c d0 (by omega)
        have e1 := htr.c d1 (by omega)
        have HC : Hid (ch64 (s.getD (3 * k) 0) (s.getD (3 * k + 1) 0) (s.getD (3 * k + 2) 0) 1 = [g64 d0, g64 d1, 61, 61]) := by
          show _ = _
          rw [← hx, hy0, hz0']
          simp only [ch64]
          rw [if_neg (by omega), if_neg (by omega), ← hx3, ← hd1, ← hd0]
          rfl
        clear hd0 hx3 hd1 hx hfm hc1 hy0 hz0'
        go_wp2_with fail
        have hmx : 4 * k + 4 ≤ maxLen := by unfold maxLen; omega
        have hby : (4 * k + 4) * 1 ≤ 140737488355328 := by omega
        have hne : u3.ownBlock ≠ some 2 := by
          intro h
          have := (hown.out.lt _ h).1
          omega
        have hne1 : u3.ownBlock ≠ some b1 := by
          intro h
          have := (hown.out.lt _ h).1
          omega
        have h2s : 2 < wr.heap.size := by omega
        have hbs : b1 < wr.heap.size := by omega
        go_region_held3 (fun w' => w'.cell? ⟨2, d0, none⟩ = some (.int .u8 ((g64 d0 : Nat) : Int)) ∧ w'.cell? ⟨2, d1, none⟩ = some (.int .u8 ((g64 d1 : Nat) : Int)) ∧ w'.cell? ⟨b1, o1, none⟩ = some (.int .u8 (x : Int)))
          (first
            | (refine ⟨?_, ?_, ?_⟩ <;> first
                | (rw [hgrow.cell_far _ (by simp; omega) (Ne.symm hne)]; simp_all only [World.cell?_drew]; done)
                | (rw [hgrow.cell_far _ (by simp; omega) (Ne.symm hne1)]; simp_all only [World.cell?_drew]; done))
            | go_keep)
          ((refine step_append_lies _ (by rfl) _ _ _ (by rfl) w.heap.size 5 i0 _ 1 1 Tryd.underlying22 hi0 hz0 hz1 hz2 rfl (by omega) u3 (4 * k) _ (by rfl) ((hown.out.alloc _).drew)
              ⟨wr.heap.size, 0, none⟩ 4 4 _ (by rfl) (by rfl) (World.news_of_block (t := 5) (fr := (0, 0)) (heap_alloc_new wr _)) (by simp [Value.oneCell'])
              (by omega) hmx hby (by simp; omega) (wr.heap.size + 1) (by simp) ?_; intro gg cap w1 hown1 hgrow hat hlt2))
        all_goals
          have hownF : w1.ownsRow w.heap.size 5 1 (Value.slice (some ⟨gg, 0, none⟩) (4 * k + 4) cap) (4 * k + 4) (bs (b64L s)).toList := by
            rw [b64L_last s k 1 (by have := HN.out; omega) (by omega) (by omega), HC.out, bs_app]
            exact hown1
          have hcv := conv_own hownF
          have hbl1 : Below w.heap.size w w1 := below_grown ((hbl.alloc (by omega) _).drew) hgrow (by simp; omega) (fun g hg => by have := (hown.out.lt g hg).1; omega)
          clear hown1 hgrow hat HV hownF
          go_wp2
          go_ret
          exact ⟨rfl, hbl1⟩
      · obtain ⟨b1, o1, rfl, hb1, hc1⟩ := hfm (by omega)
        obtain ⟨x, hx⟩ : ∃ x, x = s.getD (3 * k) 0 := ⟨_, rfl⟩
        obtain ⟨y, hy⟩ : ∃ y, y = s.getD (3 * k + 1) 0 := ⟨_, rfl⟩
        have hx256 : x < 256 := by rw [hx]; exact getT hb _
        have hy256 : y < 256 := by rw [hy]; exact getT hb _
        have cx : wr.cell? ⟨b1, o1, none⟩ = some (.int .u8 (x : Int)) := by rw [hx]; exact (World.cell?_of_block (w := w) (hbl.block b1 hb1)).trans (hc1 0 (by omega))
        have cy : wr.cell? ⟨b1, o1 + 1, none⟩ = some (.int .u8 (y : Int)) := by rw [hy]; exact (World.cell?_of_block (w := w) (hbl.block b1 hb1)).trans (hc1 1 (by omega))
        have hz0' : s.getD (3 * k + 2) 0 = 0 := by rw [List.getD, List.getElem?_eq_none (by have := HN.out; omega)]; rfl
        obtain ⟨d0, hd0⟩ : ∃ d, d = x / 4 := ⟨_, rfl⟩
        obtain ⟨x3, hx3⟩ : ∃ d, d = x % 4 := ⟨_, rfl⟩
        obtain ⟨s3, hs3⟩ : ∃ d, d = x3 * 16 := ⟨_, rfl⟩
        obtain ⟨y4, hy4⟩ : ∃ d, d = y / 16 := ⟨_, rfl⟩
        obtain ⟨d1, hd1⟩ : ∃ d, d = s3 + y4 := ⟨_, rfl⟩
        obtain ⟨yf, hyf⟩ : ∃ d, d = y % 16 := ⟨_, rfl⟩
        obtain ⟨d2, hd2⟩ : ∃ d, d = yf * 4 := ⟨_, rfl⟩
        have q0 : (x : Int) / 4 = (d0 : Int) := by omega
        have q1 : bits BinOp.and IntKind.u8 (x : Int) 3 = (x3 : Int) := by rw [hx3]; exact u8_and3 x hx256
        have q2 : (x3 : Int) * 16 % 256 = (s3 : Int) := by omega
        have q2' : IntKind.u8.wrap ((x3 : Int) * 16) = (s3 : Int) := by rw [IntKind.wrap_u8']; exact q2
        have q3 : (y : Int) / 16 = (y4 : Int) := by omega
        have q4 : bits BinOp.or IntKind.u8 (s3 : Int) (y4 : Int) = (d1 : Int) := by rw [hd1]; exact or_add s3 y4 4 (by omega) (by omega) (by omega) (by omega)
        have q5 : bits BinOp.and IntKind.u8 (y : Int) 15 = (yf : Int) := by rw [hyf]; exact u8_andf y hy256
        have q6 : (yf : Int) * 4 % 256 = (d2 : Int) := by omega
        have q6' : IntKind.u8.wrap ((yf : Int) * 4) = (d2 : Int) := by rw [IntKind.wrap_u8']; exact q6
        have r0 : (0 : Int) ≤ (d0 : Int) := by omega
        have r1 : (0 : Int) ≤ (d1 : Int) := by omega
        have r2 : (0 : Int) ≤ (d2 : Int) := by omega
        have t0 : (d0 : Int) < 64 := by omega
        have t1 : (d1 : Int) < 64 := by omega
        have t2 : (d2 : Int) < 64 := by omega
        have e0 := htr.c d0 (by omega)
        have e1 := htr.c d1 (by omega)
        have e2 := htr.c d2 (by omega)
        have HC : Hid (ch64 (s.getD (3 * k) 0) (s.getD (3 * k + 1) 0) (s.getD (3 * k + 2) 0) 2 = [g64 d0, g64 d1, g64 d2, 61]) := by
          show _ = _
          rw [← hx, ← hy, hz0']
          simp only [ch64]
          rw [if_pos (by omega), if_neg (by omega), ← hx3, ← hs3, ← hy4, ← hd1, ← hd0, ← hyf, ← hd2]
          rfl
        clear hd0 hx3 hs3 hy4 hd1 hyf hd2 hx hy hfm hc1 hz0'
        go_wp2_with fail
        have hmx : 4 * k + 4 ≤ maxLen := by unfold maxLen; omega
        have hby : (4 * k + 4) * 1 ≤ 140737488355328 := by omega
        have hne : u3.ownBlock ≠ some 2 := by
          intro h
          have := (hown.out.lt _ h).1
          omega
        have hne1 : u3.ownBlock ≠ some b1 := by
          intro h
          have := (hown.out.lt _ h).1
          omega
        have h2s : 2 < wr.heap.size := by omega
        have hbs : b1 < wr.heap.size := by omega
        go_region_held3 (fun w' => w'.cell? ⟨2, d0, none⟩ = some (.int .u8 ((g64 d0 : Nat) : Int)) ∧ w'.cell? ⟨2, d1, none⟩ = some (.int .u8 ((g64 d1 : Nat) : Int)) ∧ w'.cell? ⟨2, d2, none⟩ = some (.int .u8 ((g64 d2 : Nat) : Int)) ∧ w'.cell? ⟨b1, o1, none⟩ = some (.int .u8 (x : Int)) ∧ w'.cell? ⟨b1, o1 + 1, none⟩ = some (.int .u8 (y : Int)))
          (first
            | (refine ⟨?_, ?_, ?_, ?_, ?_⟩ <;> first
                | (rw [hgrow.cell_far _ (by simp; omega) (Ne.symm hne)]; simp_all only [World.cell?_drew]; done)
                | (rw [hgrow.cell_far _ (by simp; omega) (Ne.symm hne1)]; simp_all only [World.cell?_drew]; done))
            | go_keep)
          ((refine step_append_lies _ (by rfl) _ _ _ (by rfl) w.heap.size 5 i0 _ 1 1 Tryd.underlying22 hi0 hz0 hz1 hz2 rfl (by omega) u3 (4 * k) _ (by rfl) ((hown.out.alloc _).drew)
              ⟨wr.heap.size, 0, none⟩ 4 4 _ (by rfl) (by rfl) (World.news_of_block (t := 5) (fr := (0, 0)) (heap_alloc_new wr _)) (by simp [Value.oneCell'])
              (by omega) hmx hby (by simp; omega) (wr.heap.size + 1) (by simp) ?_; intro gg cap w1 hown1 hgrow hat hlt2))
        all_goals
          have hownF : w1.ownsRow w.heap.size 5 1 (Value.slice (some ⟨gg, 0, none⟩) (4 * k + 4) cap) (4 * k + 4) (bs (b64L s)).toList := by
            rw [b64L_last s k 2 (by have := HN.out; omega) (by omega) (by omega), HC.out, bs_app]
            exact hown1
          have hcv := conv_own hownF
          have hbl1 : Below w.heap.size w w1 := below_grown ((hbl.alloc (by omega) _).drew) hgrow (by simp; omega) (fun g hg => by have := (hown.out.lt g hg).1; omega)
          clear hown1 hgrow hat HV hownF
          go_wp2
          go_ret
          exact ⟨rfl, hbl1⟩
end Go.Proofs.YtkppejaigodgiabDoor
