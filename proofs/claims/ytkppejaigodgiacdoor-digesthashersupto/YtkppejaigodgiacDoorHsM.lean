/- DigestHashers: the walk. -/
import Derived.Test.YtkppejaigodgiacDoorHsE
import Derived.Deep.DeepCutAuto
namespace Go.Proofs.YtkppejaigodgiacDoor.Hash
open Go.RowKit Go.Proofs.YtkppejaigodgiacDoor.Sha
theorem hq_start {w w1 w2 w3 w4 : World} (b1 : w1 = w.alloc (.cells hz 49)) (b2 : w2 = w1.alloc (.cells #[.pointer (some ⟨w.heap.size, 0, none⟩)] 30)) (b3 : w3 = w2.alloc (.cells #[.slice none 0 0] 51)) (b4 : w4 = w3.alloc (.cells #[.pointer (some ⟨w2.heap.size, 0, none⟩)] 33)) :
    Hq w.heap.size (.slice (some ⟨w1.heap.size, 0, none⟩) 1 1) (.slice (some ⟨w3.heap.size, 0, none⟩) 1 1) [w.heap.size] [w2.heap.size] [[]] w4 ∧ Below w.heap.size w w4 := by
  have z1 : w1.heap.size = w.heap.size + 1 := by rw [b1]; simp
  have z2 : w2.heap.size = w.heap.size + 2 := by rw [b2]; simp [z1]
  have z3 : w3.heap.size = w.heap.size + 3 := by rw [b3]; simp [z2]
  have z4 : w4.heap.size = w.heap.size + 4 := by rw [b4]; simp [z3]
  have r0 : w4.heap[w.heap.size]? = some (.cells hz 49 (0, 0)) := by
    rw [b4, heap_alloc_old _ _ (h := by omega), b3, heap_alloc_old _ _ (h := by omega), b2, heap_alloc_old _ _ (h := by omega), b1]; exact heap_alloc_new _ _
  have r1 : w4.heap[w1.heap.size]? = some (.cells #[.pointer (some ⟨w.heap.size, 0, none⟩)] 30 (0, 0)) := by
    rw [b4, heap_alloc_old _ _ (h := by omega), b3, heap_alloc_old _ _ (h := by omega), b2]; exact heap_alloc_new _ _
  have r2 : w4.heap[w2.heap.size]? = some (.cells #[.slice none 0 0] 51 (0, 0)) := by
    rw [b4, heap_alloc_old _ _ (h := by omega), b3]; exact heap_alloc_new _ _
  have r3 : w4.heap[w3.heap.size]? = some (.cells #[.pointer (some ⟨w2.heap.size, 0, none⟩)] 33 (0, 0)) := by rw [b4]; exact heap_alloc_new _ _
  have one : ∀ {x y : Nat} {i : Nat}, [x][i]? = some y → i = 0 ∧ y = x := fun {x y i} h => by
    have := (List.getElem?_eq_some_iff.1 h).1
    have hi : i = 0 := by simpa using this
    subst hi
    exact ⟨rfl, by simpa using h.symm⟩
  refine ⟨⟨[.slice none 0 0], upd (upd (upd (fun _ => (0, 0)) w2.heap.size (1, 0)) w1.heap.size (3, 0)) w3.heap.size (4, 0), ⟨rfl, rfl, rfl, rfl, ?_, ?_, ?_, ?_, ?_, ?_, ?_, ?_, ?_, by omega⟩⟩, ?_⟩
  · intro i g m hg hm
    obtain ⟨rfl, rfl⟩ := one hg
    have : m = [] := by simpa using hm.symm
    subst this
    exact took_zero _ _ _ _ r0
  · intro i g hg
    obtain ⟨rfl, rfl⟩ := one hg
    exact ⟨Nat.le_refl _, by rw [upd_old (by omega), upd_old (by omega), upd_old (by omega)]⟩
  · intro i h d m hh hd hm
    obtain ⟨rfl, rfl⟩ := one hh
    have : m = [] := by simpa using hm.symm
    subst this
    have : d = .slice none 0 0 := by simpa using hd.symm
    subst this
    exact ⟨r2, World.ownsRow_nil _ _ _ _⟩
  · intro i h hh
    obtain ⟨rfl, rfl⟩ := one hh
    exact ⟨by omega, by rw [upd_old (by omega), upd_old (by omega)]; exact upd_new⟩
  · intro i d k hd hk
    have hi : i = 0 := by have := (List.getElem?_eq_some_iff.1 hd).1; simpa using this
    subst hi
    have : d = .slice none 0 0 := by simpa using hd.symm
    subst this
    simp [Value.ownBlock] at hk
  · exact ⟨rfl, .inr ⟨w1.heap.size, 1, _, rfl, by omega, r1, Nat.le_refl _, by unfold maxLen; omega, rfl, rfl⟩⟩
  · intro k hk
    have : w1.heap.size = k := Option.some.inj hk
    rw [← this, upd_old (by omega)]; exact upd_new
  · exact ⟨rfl, .inr ⟨w3.heap.size, 1, _, rfl, by omega, r3, Nat.le_refl _, by unfold maxLen; omega, rfl, rfl⟩⟩
  · intro k hk
    have : w3.heap.size = k := Option.some.inj hk
    rw [← this]; exact upd_new
  · rw [b4, b3, b2, b1]
    refine (((((Below.refl _ w).alloc (Nat.le_refl _) _).alloc ?_ _).alloc ?_ _).alloc ?_ _)
    all_goals simp
    all_goals omega
theorem byt_app' {a b : List Nat} (ha : Byt a) (hb : Byt b) : Byt (a ++ b) := fun x hx => (List.mem_append.1 hx).elim (ha x) (hb x)
theorem tt {g : Nat} {w w' : World} (t : Sha.Touch g w w') : Touch g w w' := ⟨t.os, t.tape, t.output, t.size, t.block⟩
theorem fs_own {W : World} {B n : Nat} {v : Value} {l : List Nat} (h : W.ownsRow B 5 1 v n (bs l).toList) (hn : 0 < n) : ∃ F c, v = .slice (some ⟨F, 0, none⟩) n c ∧ Fs F l W ∧ B ≤ F ∧ n ≤ c ∧ c ≤ maxLen ∧ n = l.length := by
  have hl : n = l.length := by have := h.1; simpa [bs] using this.symm
  obtain ⟨h0, ⟨h1, rfl⟩ | ⟨g, cap, cur, rfl, h3, h4, h5, h6, h7, h8⟩⟩ := h
  · omega
  · refine ⟨g, cap, rfl, ⟨cur, h4, fun j hj => ?_⟩, h3, h5, h6, hl⟩
    have : cur.toList[j]? = (bs l).toList[j]? := by rw [← h8, List.getElem?_take, if_pos (by omega)]
    rw [← Array.getElem?_toList, this, Array.getElem?_toList, bs_get _ _ hj]
theorem cut15 (W : World) (F q c : Nat) (hc : q + 8 ≤ c) : (Instr.sliceAt 22 (.slice (some ⟨F, 0, none⟩) (q + 8) c) none (some (.int .i64 (q : Int))) none).run Tryd.prog W = .ok (.slice (some ⟨F, 0, none⟩) q c) W := by
  have h := run_cut_h W (some ⟨F, 0, none⟩) (q + 8) c q (by omega)
  unfold slR at h
  unfold Instr.sliceAt
  simp [Sem.run_bind, h, sliced]
  intro _
  rfl
theorem flag {l : Array Bool} {i j : Nat} (hj : j < l.size) : (l.setIfInBounds i true).getD j false = (l.getD j false || decide (i = j)) := by
  rw [agetD _ _ _ (by simpa using hj), agetD _ _ _ hj]
  by_cases he : i = j
  · subst he; simp
  · rw [Array.getElem_setIfInBounds_ne hj he]; simp [he]
theorem flag0 {l : Array Bool} {i : Nat} (h : l.getD i true = false) : l.getD i false = false := by
  have hi : i < l.size := by
    rcases Nat.lt_or_ge i l.size with h1 | h1
    · exact h1
    · simp [Array.getD, Nat.not_lt.2 h1] at h
  rw [agetD _ _ _ hi] at h ⊢
  exact h
attribute [local go_sem ↓] toApA toApB
set_option maxRecDepth 100000 in
set_option maxHeartbeats 6400000 in
theorem hashers_any (l : List Stp) (hl : l.length ≤ 1048576) (ht : (l.map fun x => x.p.length).sum ≤ 1048576) (hb : ∀ x ∈ l, Byt x.p ∧ I64 x.kind ∧ I64 x.which) (v : Value) (w : World) (tb : Tb w) (tr : Tr w) (hv : Scr v l w) :
    Calls Tryd.prog 4 #[v] w fun e w' => e = .returned (.bool true) ∧ Below w.heap.size w w' := by
  obtain ⟨so, sc, L, rfl, hL, hsc⟩ : ∃ so sc L, v = .slice so L sc ∧ L = l.length ∧ (0 < L → ∃ b off, so = some ⟨b, off, none⟩ ∧ b < w.heap.size ∧ ∀ (j : Nat) x, l[j]? = some x → w.cell? ⟨b, off + j * 3, none⟩ = some (.int .i64 x.kind) ∧ w.cell? ⟨b, off + j * 3 + 1, none⟩ = some (.int .i64 x.which) ∧ w.cell? ⟨b, off + j * 3 + 2, none⟩ = some x.pv ∧ Byz x.pv x.p w) := by
    rcases hv with ⟨rfl, rfl⟩ | ⟨b, off, cap, rfl, h1, h2, h3⟩
    · exact ⟨none, 0, 0, rfl, rfl, fun h => by omega⟩
    · exact ⟨_, cap, _, rfl, rfl, fun _ => ⟨b, off, rfl, h2, h3⟩⟩
  have TT : Hid (Tt w w.heap.size) := ⟨tb, tr, tb.sz⟩
  have HL : Hid (L = l.length) := hL
  have HT : Hid ((l.map fun x => x.p.length).sum ≤ 1048576) := ht
  have HB : Hid (∀ x ∈ l, Byt x.p ∧ I64 x.kind ∧ I64 x.which) := hb
  have HS : Hid (0 < L → ∃ b off, so = some ⟨b, off, none⟩ ∧ b < w.heap.size ∧ ∀ (j : Nat) x, l[j]? = some x → w.cell? ⟨b, off + j * 3, none⟩ = some (.int .i64 x.kind) ∧ w.cell? ⟨b, off + j * 3 + 1, none⟩ = some (.int .i64 x.which) ∧ w.cell? ⟨b, off + j * 3 + 2, none⟩ = some x.pv ∧ Byz x.pv x.p w) := hsc
  have hL1 : L ≤ 1048576 := by omega
  clear hv tb tr hsc hb ht hL hl
  obtain ⟨W1, hW1⟩ : ∃ W1, w.alloc (.cells hz 49) = W1 := ⟨_, rfl⟩
  obtain ⟨W2, hW2⟩ : ∃ W2, W1.alloc (.cells #[.pointer (some ⟨w.heap.size, 0, none⟩)] 30) = W2 := ⟨_, rfl⟩
  obtain ⟨W3, hW3⟩ : ∃ W3, W2.alloc (.cells #[.slice none 0 0] 51) = W3 := ⟨_, rfl⟩
  obtain ⟨W4, hW4⟩ : ∃ W4, W3.alloc (.cells #[.pointer (some ⟨W2.heap.size, 0, none⟩)] 33) = W4 := ⟨_, rfl⟩
  have H4 := hq_start hW1.symm hW2.symm hW3.symm hW4.symm
  have HQ0 : Hid (Hq w.heap.size (.slice (some ⟨W1.heap.size, 0, none⟩) 1 1) (.slice (some ⟨W3.heap.size, 0, none⟩) 1 1) [w.heap.size] [W2.heap.size] [[]] W4) := H4.1
  have HB0 : Hid (Below w.heap.size w W4) := H4.2
  have r1 : W4.cell? ⟨W1.heap.size, 0, none⟩ = some (.pointer (some ⟨w.heap.size, 0, none⟩)) := by
    obtain ⟨⟨ds, O, h⟩, _⟩ := H4
    exact Hv.cellA h rfl
  clear H4
  have CN : Hid (Calls Tryd.prog 10 #[] w fun e w' => e = .returned (.pointer (some ⟨w.heap.size, 0, none⟩)) ∧ w' = W1) := by rw [← hW1]; exact new_any w
  have CR : Hid (Calls Tryd.prog 11 #[] W2 fun e w' => e = .returned (.pointer (some ⟨W2.heap.size, 0, none⟩)) ∧ w' = W3) := by rw [← hW3]; exact newR W2
  clear hW1 hW3
  go_enter Tryd.func4, Tryd.ntmps4
  go_wp2_with fail
  refine Calls.mono CN.out ?_
  rintro e w' ⟨rfl, rfl⟩
  go_wp2_with fail
  refine Calls.mono CR.out ?_
  rintro e w'' ⟨rfl, rfl⟩
  go_wp2_with fail
  clear hW2 hW4 r1 CN CR
  go_loopw [3, 4, 5] (fun va vb i wr => ∃ (k : Nat) (A Bk : List Nat) (ms : List (List Nat)), i = .int .i64 (k : Int) ∧ k ≤ L ∧ Hid (Hq w.heap.size va vb A Bk ms wr) ∧ 0 < A.length ∧ A.length ≤ k + 1 ∧ Hid (Mok (tot l k) ms) ∧ Hid (Below w.heap.size w wr)) (fun _ _ i _ => L - (intOf i).toNat)
  case atStart => exact ⟨0, _, _, _, rfl, by omega, HQ0, by simp, by simp, fun m hm => by rw [List.mem_singleton.1 hm]; exact ⟨fun x hx => (by cases hx), Nat.zero_le _⟩, HB0⟩
  case round =>
    clear HQ0 HB0
    obtain ⟨k, A, Bk, ms, rfl, hk, HQ, hA0, hA1, HM, HBL⟩ := hrel
    obtain ⟨bA, cA, bB, cB, rfl, rfl⟩ := HQ.out.forms hA0
    obtain ⟨n, hn⟩ : ∃ n, n = A.length := ⟨_, rfl⟩
    rw [← hn] at HQ hA0 hA1 ⊢
    have HN : Hid (A.length = n) := hn.symm
    clear hn
    by_cases hlt : k < L
    · have hk0 : (0 : Int) ≤ (k : Int) := by omega
      have hk1 : (k : Int) < (L : Int) := by omega
      obtain ⟨⟨kd, wh, pv, p⟩, hx⟩ : ∃ x, l[k]? = some x := ⟨_, List.getElem?_eq_getElem (by have := HL.out; omega)⟩
      obtain ⟨sb, soff, rfl, hsb, hcs⟩ := HS.out (by omega)
      obtain ⟨q1, q2, q3, q4⟩ := hcs k _ hx
      have hblk := HBL.out.block sb hsb
      have c1 : wr.cell? ⟨sb, soff + k * 3, none⟩ = some (.int .i64 kd) := (World.cell?_of_block (w := w) hblk).trans q1
      have c2 : wr.cell? ⟨sb, soff + k * 3 + 1, none⟩ = some (.int .i64 wh) := (World.cell?_of_block (w := w) hblk).trans q2
      have c3 : wr.cell? ⟨sb, soff + k * 3 + 2, none⟩ = some pv := (World.cell?_of_block (w := w) hblk).trans q3
      have hxb := HB.out _ (List.mem_of_getElem? hx)
      have HP : Hid (Byz pv p w) := q4
      obtain ⟨po, pc, hpv⟩ := HP.out.form
      clear q4
      subst hpv
      have HX : Hid (tot l (k + 1) = tot l k + p.length) := tot_succ hx
      have hT1 : Hid (tot l (k + 1) ≤ 1048576) := Nat.le_trans (tot_le l (k + 1)) HT.out
      have hPB : Hid (Byt p) := hxb.1
      have hkd : -9223372036854775808 ≤ kd ∧ kd < 9223372036854775808 := hxb.2.1
      have hwh : -9223372036854775808 ≤ wh ∧ wh < 9223372036854775808 := hxb.2.2
      clear q1 q2 q3 hblk hcs hx hxb
      obtain ⟨Ws, hWs⟩ : ∃ Ws, wr.alloc (.cells #[.int .i64 kd, .int .i64 wh, .slice po p.length pc] 37) = Ws := ⟨_, rfl⟩
      obtain ⟨kk, hkk1, hkk2, hkk3⟩ : ∃ kk : Nat, kk < n ∧ (wh.tmod (n : Int) < 0 → wh.tmod (n : Int) + (n : Int) = (kk : Int)) ∧ (¬ wh.tmod (n : Int) < 0 → wh.tmod (n : Int) = (kk : Int)) := by
        have h1 := Int.tmod_lt_of_pos wh (show (0 : Int) < (n : Int) by omega)
        have h2 := Int.lt_tmod_of_pos wh (show (0 : Int) < (n : Int) by omega)
        by_cases h : wh.tmod (n : Int) < 0
        · exact ⟨(wh.tmod (n : Int) + (n : Int)).toNat, by omega, fun _ => by omega, fun h' => absurd h h'⟩
        · exact ⟨(wh.tmod (n : Int)).toNat, by omega, fun h' => absurd h' h, fun _ => by omega⟩
      have SZ : Hid (Hq w.heap.size (.slice (some ⟨bA, 0, none⟩) n cA) (.slice (some ⟨bB, 0, none⟩) n cB) A Bk ms Ws ∧ Ws.heap[wr.heap.size]? = some (.cells #[.int .i64 kd, .int .i64 wh, .slice po p.length pc] 37 (0, 0)) ∧ Below w.heap.size w Ws ∧ w.heap.size ≤ wr.heap.size) := by
        have hb : Below wr.heap.size wr Ws := by rw [← hWs]; exact (Below.refl _ wr).alloc (Nat.le_refl _) _
        have hz : w.heap.size ≤ wr.heap.size := HBL.out.size
        exact ⟨HQ.out.below hb, by rw [← hWs]; exact heap_alloc_new _ _, HBL.out.trans (hb.mono hz), hz⟩
      have d0 : Ws.cell? ⟨wr.heap.size, 0, none⟩ = some (.int .i64 kd) := (cell_of_row Ws _ 0 _ _ _ SZ.out.2.1).trans rfl
      have d1 : Ws.cell? ⟨wr.heap.size, 1, none⟩ = some (.int .i64 wh) := (cell_of_row Ws _ 1 _ _ _ SZ.out.2.1).trans rfl
      have d2 : Ws.cell? ⟨wr.heap.size, 2, none⟩ = some (.slice po p.length pc) := (cell_of_row Ws _ 2 _ _ _ SZ.out.2.1).trans rfl
      have K2 : Hid (wh.tmod (n : Int) < 0 → wh.tmod (n : Int) + (n : Int) = (kk : Int)) := hkk2
      have K3 : Hid (¬ wh.tmod (n : Int) < 0 → wh.tmod (n : Int) = (kk : Int)) := hkk3
      clear hkk2 hkk3
      have SO : Hid (∃ ds O, Hv w.heap.size (.slice (some ⟨bA, 0, none⟩) n cA) (.slice (some ⟨bB, 0, none⟩) n cB) A Bk A Bk ds ms ms O Ws ∧ O wr.heap.size = (9, 0)) := by
        obtain ⟨ds, O, hv⟩ := HQ.out
        have hb : Below wr.heap.size wr Ws := by rw [← hWs]; exact (Below.refl _ wr).alloc (Nat.le_refl _) _
        exact ⟨ds, _, (hv.res wr.heap.size (Nat.le_refl _) (9, 0)).below hb, upd_new⟩
      go_upto_if 36 with fail
      go_cut [7] (fun s wc => s = .int .i64 (kk : Int) ∧ wc = Ws)
      case first =>
        by_cases h : wh.tmod (n : Int) < 0
        · have h' := K2.out h
          go_wp2
          go_meet
          exact ⟨rfl, rfl⟩
        · have h' := K3.out h
          go_wp2
          go_meet
          exact ⟨rfl, rfl⟩
      case rest =>
        obtain ⟨rfl, hcw⟩ := hcut
        have hcw2 := hcw.symm
        clear hcw
        subst hcw2
        clear K2 K3 hwh c1 c2 c3 hWs d1 HBL HQ
        obtain ⟨s, hs⟩ : ∃ s, s = wr.heap.size := ⟨_, rfl⟩
        rw [← hs] at SZ SO d0 d2 ⊢
        clear hs
        have hkn : kk < A.length := by have := HN.out; omega
        obtain ⟨g, b, m, dd, hg, hb, hm, tk, rk, gN, bN⟩ := SZ.out.1.at kk hkn
        have hmb := HM.out m (List.mem_of_getElem? hm)
        have hkk0 : (0 : Int) ≤ (kk : Int) := by omega
        have hkk1' : (kk : Int) < (n : Int) := by omega
        have HM1 : Hid (Mok (tot l (k + 1)) ms) := HM.out.mono (by have := HX.out; omega)
        have hml : m.length ≤ 1048576 := by have := hmb.2; have := hT1.out; have := HX.out; omega
        have HMB : Hid (Byt m ∧ m.length ≤ tot l k) := hmb
        clear hmb
        have hat : ∀ W, Hq w.heap.size (.slice (some ⟨bA, 0, none⟩) n cA) (.slice (some ⟨bB, 0, none⟩) n cB) A Bk ms W → ∃ d, Tk m g W ∧ Rk w.heap.size m b d W ∧ W.cell? ⟨bA, kk, none⟩ = some (.pointer (some ⟨g, 0, none⟩)) ∧ W.cell? ⟨bB, kk, none⟩ = some (.pointer (some ⟨b, 0, none⟩)) := fun W h => by
          obtain ⟨ds, O, hv⟩ := h
          obtain ⟨d, hd⟩ := get_of hv.ld hg
          exact ⟨d, hv.tk kk g m hg hm, hv.rk kk b d m hb hd hm, Hv.cellA hv hg, Hv.cellB hv hb⟩
        have HAT : Hid _ := hat
        obtain ⟨_, _, _, cA0, cB0⟩ := hat Ws SZ.out.1
        clear hat
        by_cases e1 : kd = 1
        · subst e1
          clear hkd
          go_wp2_with fail
          obtain ⟨S, hS⟩ : ∃ S : World → Prop, S = fun W => Hq w.heap.size (.slice (some ⟨bA, 0, none⟩) n cA) (.slice (some ⟨bB, 0, none⟩) n cB) A Bk ms W ∧ Below w.heap.size w W := ⟨_, rfl⟩
          have hSd : S Ws.drew := by rw [hS]; exact ⟨SZ.out.1.below (Below.refl _ Ws).drew, SZ.out.2.2.1.trans (Below.refl _ Ws).drew⟩
          have hSb : ∀ W W', S W → Below W.heap.size W W' → S W' := fun W W' h hb => by
            rw [hS] at h ⊢
            exact ⟨h.1.below hb, h.2.trans (hb.mono (by obtain ⟨⟨_, _, h⟩, _⟩ := h; exact h.sz))⟩
          have hS1 : ∀ W, S W → Hq w.heap.size (.slice (some ⟨bA, 0, none⟩) n cA) (.slice (some ⟨bB, 0, none⟩) n cB) A Bk ms W ∧ Below w.heap.size w W := fun W h => by rw [hS] at h; exact h
          clear hS
          refine wp_region_rel (ops := reg22) (V := V22 (sha m) n kk g b bA bB cA cB 0) (S := S) (T := fun u u' => Below u.heap.size u u') (by kernel_rfl) (V22_stab _ _ _ _ _ _ _ _ _ _) (fun i o ho => (okR_at okR22 ho).1) (fun i j o oj d ho hj h2 h3 => (okR_at okR22 ho).2.2 j oj d hj h2 h3) (fun i o d ho h => (okR_at okR22 ho).2.1 d h)
            (step22 _ (sha m) n kk g b bA bB cA cB 0 S _ rfl rfl rfl hkk0 hkk1' hSb (fun W h => (HAT.out W (hS1 W h).1).choose_spec.2.2.1) (fun W h => (HAT.out W (hS1 W h).1).choose_spec.2.2.2) (fun W => eq25 W _ (sha_len m))
              (fun W h => sum_tb g m (by omega) W (TT.out.b.below (hS1 W h).2 TT.out.n) (HAT.out W (hS1 W h).1).choose_spec.1)
              (fun W h => sumR w.heap.size m HMB.out.1 b _ W (HAT.out W (hS1 W h).1).choose_spec.2.1 (by omega) (TT.out.r.below (hS1 W h).2 TT.out.n) (TT.out.b.below (hS1 W h).2 TT.out.n).sz)) hSd ?_
          intro X W2' hS2 hX
          have H2 : Hid (Hq w.heap.size (.slice (some ⟨bA, 0, none⟩) n cA) (.slice (some ⟨bB, 0, none⟩) n cB) A Bk ms W2') := (hS1 _ hS2).1
          have B2 : Hid (Below w.heap.size w W2') := (hS1 _ hS2).2
          obtain ⟨o10, ho10, hd10⟩ := at_dst (ops := reg22) (j := 10) (d := 101) (by kernel_rfl)
          have e10 : X 10 = .bool false := hX 10 o10 101 ho10 hd10
          rw [put22, e10]
          clear hX e10 hS1 hSb hS2 hSd
          go_wp2
          exact ⟨⟨k + 1, A, Bk, ms, by rfl, by omega, H2, by have := HN.out; omega, by have := HN.out; omega, HM1, B2⟩, by simp only [intOf]; omega⟩
        by_cases e2 : kd = 2
        · subst e2
          clear hkd
          have L1 : Hid (∀ q, Calls Tryd.prog 16 #[.pointer (some ⟨g, 0, none⟩)] (Ws.drewN q) fun e w' => e = .returned (.int .i64 (m.length : Int)) ∧ w' = Ws.drewN q) := fun q => len_tb g m _ (tk.keep rfl)
          have L2 : Hid (∀ q, Calls Tryd.prog 17 #[.pointer (some ⟨b, 0, none⟩)] (Ws.drewN q) fun e w' => e = .returned (.int .i64 (m.length : Int)) ∧ w' = Ws.drewN q) := fun q => lenR w.heap.size m b dd _ (rk.keep rfl fun _ _ => rfl)
          go_wp2_with fail
          go_quiet (first | (go_at_call 16; exact Calls.quiet_of_same (L1.out _)) | (go_at_call 17; exact Calls.quiet_of_same (L2.out _)))
          have H2 : Hid (Hq w.heap.size (.slice (some ⟨bA, 0, none⟩) n cA) (.slice (some ⟨bB, 0, none⟩) n cB) A Bk ms (Ws.drewN nq)) := SZ.out.1.below (YtkppejaigodgiacDoor.Below.drewN' (Below.refl _ _) nq)
          have B2 : Hid (Below w.heap.size w (Ws.drewN nq)) := YtkppejaigodgiacDoor.Below.drewN' SZ.out.2.2.1 nq
          go_wp2
          exact ⟨⟨k + 1, A, Bk, ms, by rfl, by omega, H2, by have := HN.out; omega, by have := HN.out; omega, HM1, B2⟩, by simp only [intOf]; omega⟩
        by_cases e4 : kd = 4
        · subst e4
          clear hkd
          have X1 : Hid (Calls Tryd.prog 20 #[.pointer (some ⟨g, 0, none⟩)] Ws fun e w' => e = .returned (.tuple #[]) ∧ Tk [] g w' ∧ Sha.Touch g Ws w') := reset_tb g m Ws tk
          go_wp2_with fail
          refine Calls.mono X1.out ?_
          rintro e Wa ⟨rfl, k1, t1⟩
          obtain ⟨⟨ds, O, hv⟩, _, hbel, _⟩ := SZ.out
          obtain ⟨d, hd⟩ := get_of hv.ld hg
          have hv1 := hv.wa (w' := Wa) hg t1.size t1.block k1
          have rk1 : Rk w.heap.size m b d Wa := hv1.rk kk b d m hb hd hm
          have cB1 := Hv.cellB hv1 hb
          have X2 : Hid (Calls Tryd.prog 21 #[.pointer (some ⟨b, 0, none⟩)] Wa fun e w' => e = .returned (.tuple #[]) ∧ Rk w.heap.size [] b (.slice none 0 0) w' ∧ Sha.Touch b Wa w') := resetR w.heap.size m b d Wa rk1
          have XX : Hid (∀ w2, Rk w.heap.size [] b (.slice none 0 0) w2 → Sha.Touch b Wa w2 → Hq w.heap.size (.slice (some ⟨bA, 0, none⟩) n cA) (.slice (some ⟨bB, 0, none⟩) n cB) A Bk (ms.set kk []) w2 ∧ Below w.heap.size w w2) := fun w2 k2 t2 =>
            ⟨hq_reset hv hg hb hd (tt t1) k1 (tt t2) k2, hbel.trans (Below.trans ⟨t1.os, t1.tape, t1.output, t1.size, fun j hj => t1.block j (by have := hv.sz; omega) (by omega)⟩ ⟨t2.os, t2.tape, t2.output, t2.size, fun j hj => t2.block j (by have := hv.sz; have := t1.size; omega) (by omega)⟩)⟩
          clear hv hv1 rk1 k1 t1 hbel cA0 cB0 d0 d2
          go_wp2_with fail
          refine Calls.mono X2.out ?_
          rintro e Wb ⟨rfl, k2, t2⟩
          have H2 : Hid _ := (XX.out Wb k2 t2).1
          have B2 : Hid _ := (XX.out Wb k2 t2).2
          have HM2 : Hid (Mok (tot l (k + 1)) (ms.set kk [])) := HM1.out.set ⟨fun x hx => (by cases hx), Nat.zero_le _⟩ kk
          clear k2 t2 XX X2
          go_wp2
          exact ⟨⟨k + 1, A, Bk, _, by rfl, by omega, H2, by have := HN.out; omega, by have := HN.out; omega, HM2, B2⟩, by simp only [intOf]; omega⟩
        by_cases e3 : kd = 3
        · subst e3
          clear hkd
          have X1 : Hid (Calls Tryd.prog 18 #[.pointer (some ⟨g, 0, none⟩)] Ws fun e w' => e = .returned (.pointer (some ⟨Ws.heap.size, 0, none⟩)) ∧ Tk m Ws.heap.size w' ∧ Below Ws.heap.size Ws w') := clone_tb g m Ws tk
          go_wp2_with fail
          refine Calls.mono X1.out ?_
          rintro e Wa ⟨rfl, k1, b1⟩
          obtain ⟨⟨ds, O, hv⟩, _, hbel, _⟩ := SZ.out
          obtain ⟨vA', Wb, O', ra, hv2, og, kg, bb, zz⟩ := clone_a hv b1 k1 (by have := HN.out; omega)
          obtain ⟨d, hd⟩ := get_of hv.ld hg
          have rk2 : Rk w.heap.size m b d Wb := hv2.rk kk b d m hb hd hm
          have cB2 := Hv.cellB hv2 hb
          have X2 : Hid (Calls Tryd.prog 19 #[.pointer (some ⟨b, 0, none⟩)] Wb fun e w' => ∃ h' d', e = .returned (.pointer (some ⟨h', 0, none⟩)) ∧ Rk Wb.heap.size m h' d' w' ∧ Wb.heap.size ≤ h' ∧ ¬ d'.ownBlock = some h' ∧ Below Wb.heap.size Wb w') := cloneR w.heap.size m b d Wb rk2 (by omega)
          have XX : Hid (∀ w3 h' d', Below Wb.heap.size Wb w3 → Rk Wb.heap.size m h' d' w3 → Wb.heap.size ≤ h' → ¬ d'.ownBlock = some h' → ∃ vB' w4, (apB 35 #[.slice (some ⟨bB, 0, none⟩) n cB, .slice (some ⟨w3.heap.size, 0, none⟩) 1 1]).run Tryd.prog (w3.alloc (.cells #[.pointer (some ⟨h', 0, none⟩)] 33)) = .ok vB' w4 ∧ Hq w.heap.size vA' vB' (A ++ [Ws.heap.size]) (Bk ++ [h']) (ms ++ [m]) w4 ∧ Below w.heap.size w w4) := fun w3 h' d' p1 p2 p3 p4 => by
            obtain ⟨vB', w4, q1, q2, q3⟩ := clone_b hv2 og hv.sz kg p1 p2 p3 p4 (by have := HN.out; omega)
            exact ⟨vB', w4, q1, q2, (hbel.trans bb).trans q3⟩
          have HM2 : Hid (Mok (tot l (k + 1)) (ms ++ [m])) := fun x hx => by
            rcases List.mem_append.1 hx with h | h
            · exact HM1.out x h
            · rw [List.mem_singleton.1 h]
              exact HM1.out m (List.mem_of_getElem? hm)
          clear hv hv2 og kg bb zz k1 b1 hbel cA0 cB0 d0 d2 rk2 X1
          go_wp2_with fail
          refine Calls.mono X2.out ?_
          rintro e Wc ⟨h', d', rfl, p2, p3, p4, p1⟩
          obtain ⟨vB', Wd, rb, h2, b2⟩ := XX.out Wc h' d' p1 p2 p3 p4
          have H2 : Hid _ := h2
          have B2 : Hid _ := b2
          clear h2 b2 p1 p2 p3 p4 XX X2 ra
          go_wp2
          exact ⟨⟨k + 1, _, _, _, by rfl, by omega, H2, by simp, by have := HN.out; simp; omega, HM2, B2⟩, by simp only [intOf]; omega⟩
        by_cases e0 : kd = 0
        case neg =>
          have H2 : Hid (Hq w.heap.size (.slice (some ⟨bA, 0, none⟩) n cA) (.slice (some ⟨bB, 0, none⟩) n cB) A Bk ms Ws) := SZ.out.1
          have B2 : Hid (Below w.heap.size w Ws) := SZ.out.2.2.1
          go_wp2
          exact ⟨⟨k + 1, A, Bk, ms, by rfl, by omega, H2, by have := HN.out; omega, by have := HN.out; omega, HM1, B2⟩, by simp only [intOf]; omega⟩
        subst e0
        clear hkd e1 e2 e3 e4 HAT cA0 cB0
        have hbel := SZ.out.2.2.1
        have X1 : Hid (Calls Tryd.prog 5 #[.slice po p.length pc] Ws fun e w' => ∃ x, e = .returned x ∧ Below Ws.heap.size Ws w' ∧ w'.ownsRow Ws.heap.size 5 1 x (p.length + 8) (bs (p ++ marks)).toList) := padded_z p (by have := HX.out; have := hT1.out; omega) _ Ws (HP.out.below hbel)
        clear hbel
        go_wp2_with fail
        refine Calls.mono X1.out ?_
        rintro e Wp ⟨x, rfl, bp, op⟩
        obtain ⟨F, fc, rfl, fF, hF1, hF2, hF3, hF4⟩ := fs_own op (by omega)
        clear hF4
        have hpl : p.length ≤ 1048576 := by have := HX.out; have := hT1.out; omega
        obtain ⟨mp, hmp⟩ : ∃ mp, mp = m ++ p := ⟨_, rfl⟩
        obtain ⟨pv, hpv⟩ : ∃ pv, pv = Value.slice po p.length pc := ⟨_, rfl⟩
        have SP : Hid (S15 w.heap.size (.slice (some ⟨bA, 0, none⟩) n cA) (.slice (some ⟨bB, 0, none⟩) n cB) A Bk ms kk mp F s (p ++ marks) pv w false false Wp) := by
          obtain ⟨ds, O, hv, hO⟩ := SO.out
          have hsl : s < Ws.heap.size := (Array.getElem?_eq_some_iff.1 SZ.out.2.1).1
          have hv2 := (hv.res F hF1 (9, 0)).below bp
          refine ⟨ds, _, by simpa using hv2, fF, ⟨_, _, (bp.block s hsl).trans (by rw [hpv]; exact SZ.out.2.1)⟩, upd_new, (upd_old (by omega)).trans hO, by have := hv.sz; omega, SZ.out.2.2.2, SZ.out.2.2.1.trans (bp.mono hv.sz)⟩
        have FW : Hid (∀ W, Fs F (p ++ marks) W → Bl (.slice (some ⟨F, 0, none⟩) p.length fc) p W ∧ Bl (.slice (some ⟨F, 0, none⟩) (p.length + 8) fc) (p ++ marks) W) := fun W h => by
          have hlm : (p ++ marks).length = p.length + 8 := by simp [marks]
          have h2 := YtkppejaigodgiacDoor.Fst.byl (c := fc) h (by omega) hF3
          refine ⟨?_, by rw [hlm] at h2; exact h2⟩
          obtain ⟨cur, h3, h4⟩ := h
          refine .inr ⟨F, 0, fc, rfl, by omega, hF3, (Array.getElem?_eq_some_iff.1 h3).1, fun j hj => ?_⟩
          rw [Nat.zero_add, cell_of_row W _ _ _ _ _ h3, h4 j (by omega)]
          rw [List.getD, List.getElem?_append_left hj]
          rfl
        clear fF bp op SO X1
        go_wp2_with fail
        refine wp_region_relg (ops := reg15) (V := fun l => V15 p n kk g b F s bA bB fc cA cB pc po (l.getD 9 false) (l.getD 16 false)) (S := fun l W => S15 w.heap.size (.slice (some ⟨bA, 0, none⟩) n cA) (.slice (some ⟨bB, 0, none⟩) n cB) A Bk ms kk mp F s (p ++ marks) pv w (l.getD 9 false) (l.getD 16 false) W) (by kernel_rfl) (fun i o ho => (okR_at okR15 ho).1) (fun i j o oj d ho hj h2 h3 => (okR_at okR15 ho).2.2 j oj d hj h2 h3) (fun i o d ho h => (okR_at okR15 ho).2.1 d h) ?_ ?_ ?_
        · intro i o a W listed ho hF hS hsz hun hdep
          have s26 : reg15.size = 26 := by kernel_rfl
          have f9 : (listed.setIfInBounds i true).getD 9 false = (listed.getD 9 false || decide (i = 9)) := flag (by omega)
          have f16 : (listed.setIfInBounds i true).getD 16 false = (listed.getD 16 false || decide (i = 16)) := flag (by omega)
          have hst := fun Q => step15 _ p n kk g b F s bA bB fc cA cB pc po (fun x y W => S15 w.heap.size (.slice (some ⟨bA, 0, none⟩) n cA) (.slice (some ⟨bB, 0, none⟩) n cB) A Bk ms kk mp F s (p ++ marks) pv w x y W) Q rfl rfl rfl rfl rfl hkk0 hkk1'
            (fun x y W W' h hb => h.below hb)
            (fun x y W h => by obtain ⟨_, _, hv, _⟩ := h; exact Hv.cellA hv hg)
            (fun x y W h => by obtain ⟨_, _, hv, _⟩ := h; exact Hv.cellB hv hb)
            (fun x y W h => by
              obtain ⟨_, _, _, _, ⟨_, _, h3⟩, _⟩ := h
              rw [← hpv]
              exact (cell_of_row W _ 2 _ _ _ h3).trans rfl)
            (fun W => cut15 W F p.length fc (by omega))
            (fun y W h => by
              have h' := h
              obtain ⟨ds, O, hv, fF, _, hOF, _, _, _, hbl⟩ := h
              have hOg := (hv.ta kk g hg).2
              have hne : F ≠ g := fun e => by rw [e, hOg] at hOF; cases hOF
              have hT : Tk m g W := hv.tk kk g m hg (by simpa using hm)
              have hB : Bts g (.slice (some ⟨F, 0, none⟩) p.length fc) p W := by
                rcases (FW.out W fF).1 with ⟨h1, _⟩ | ⟨b1, o1, c1, h1, h2, h3, h4, h5⟩
                · cases h1
                · refine .inr ⟨b1, o1, c1, h1, h2, h3, ?_, h4, h5⟩
                  simp only [Value.slice.injEq, Option.some.injEq, Addr.mk.injEq, and_true] at h1
                  rw [← h1.1.1]; exact hne
              refine (write_tb g m p hPB.out (by omega) _ W hB (by have := TT.out.n; omega) (TT.out.b.below hbl TT.out.n) hT).mono ?_
              rintro e w2 ⟨rfl, hk2, ht2⟩
              exact ⟨rfl, h'.wa hg (tt ht2) (by rw [hmp]; exact hk2)⟩)
            (fun x W h => by
              obtain ⟨ds, O, hv, fF, h3, hOF, hOs, hNF, hNs, hbl⟩ := h
              obtain ⟨d, hd⟩ := get_of hv.ld hg
              have hR : Rk w.heap.size m b d W := hv.rk kk b d m hb hd (by simpa using hm)
              have hOb := (hv.tb kk b hb).2
              have hne : ¬ d.ownBlock = some b := fun e => by have := hv.td kk d b hd e; rw [hOb] at this; cases this
              refine (writeR w.heap.size m p b d _ W hR (HP.out.below hbl) (by omega) hv.sz hne).mono ?_
              rintro e w2 ⟨rfl, d', hR2, hk2, os, tape, out, sz, hf⟩
              exact ⟨rfl, S15.wb hb hd (by simpa using hv) fF h3 hOF hOs hNF hNs hbl (by rw [hmp]; exact hR2) hk2 os tape out sz hf⟩)
            (fun W h => by
              obtain ⟨ds, O, hv, fF, h3, hOF, hOs, hNF, hNs, hbl⟩ := h
              refine (padded_z p hpl _ W (HP.out.below hbl)).mono ?_
              rintro e w2 ⟨x, rfl, hb2, ho2⟩
              exact ⟨x, rfl, hb2, (YtkppejaigodgiacDoor.byl_own ho2).1⟩)
            (fun W x h hx => by
              obtain ⟨ds, O, hv, fF, h3, hOF, hOs, hNF, hNs, hbl⟩ := h
              have hlm : (p ++ marks).length = p.length + 8 := by simp [marks]
              refine (YtkppejaigodgiacDoor.bytes_any (p ++ marks) (p ++ marks) (by omega) _ x W (FW.out W fF).2 hx).mono ?_
              rintro e w2 ⟨rfl, hb2⟩
              exact ⟨by simp, hb2⟩)
            i o a W listed _ _ ho hF hS (fun e => by subst e; exact flag0 hun) (fun e => by subst e; exact flag0 hun) hdep
          simp only [f9, f16]
          split
          · rename_i hw
            exact (if_pos hw).mp (hst _)
          · rename_i hw
            obtain ⟨h1, h2, h3⟩ := (if_neg hw).mp (hst fun _ _ _ => True)
            simp only [decide_eq_false h2, decide_eq_false h3, Bool.or_false]
            exact ⟨h1, hS, fun _ _ h => h⟩
        · have s26 : reg15.size = 26 := by kernel_rfl
          rw [s26]
          exact SP.out.below (Below.refl _ Wp).drew
        intro X Wq hSq hX
        have s26 : reg15.size = 26 := by kernel_rfl
        rw [s26] at hSq hX
        obtain ⟨o25, ho25, hd25⟩ := at_dst (ops := reg15) (j := 25) (d := 73) (by kernel_rfl)
        have e25 : X 25 = .bool false := hX 25 o25 73 ho25 hd25
        rw [put15, e25]
        have SQ : Hid (S15 w.heap.size (.slice (some ⟨bA, 0, none⟩) n cA) (.slice (some ⟨bB, 0, none⟩) n cB) A Bk ms kk mp F s (p ++ marks) pv w true true Wq) := hSq
        clear hX e25 hSq SP
        obtain ⟨ds, O, hv, ⟨cur0, hc0, hc1⟩, ⟨_, _, h3⟩, hOF, hOs, hNF, hNs, hbl⟩ := SQ.out
        have hsF : s ≠ F := by
          have : s < Ws.heap.size := (Array.getElem?_eq_some_iff.1 SZ.out.2.1).1
          omega
        have d2q : Hid (∀ W, Touch F Wq W → W.cell? ⟨s, 2, none⟩ = some (.slice po p.length pc)) := fun W t => by
          rw [← hpv]
          exact (World.cell?_of_block (w := Wq) (t.block s (Array.getElem?_eq_some_iff.1 h3).1 hsF)).trans ((cell_of_row Wq _ 2 _ _ _ h3).trans rfl)
        have I0 : Hid (∃ cur : Array Value, Wq.heap[F]? = some (.cells cur 5 (0, 0)) ∧ ∀ q, q < p.length → ∃ x : Nat, x < 256 ∧ cur[q]? = some (.int .u8 (x : Int))) := by
          refine ⟨cur0, hc0, fun q hq => ⟨_, ?_, hc1 q (by simp; omega)⟩⟩
          rw [List.getD, List.getElem?_append_left hq, ← List.getD]
          exact getT hPB.out q
        have TQ : Hid (Touch F Wq Wq) := Touch.refl _ _
        have FIN : Hid (∀ W, Touch F Wq W → Hq w.heap.size (.slice (some ⟨bA, 0, none⟩) n cA) (.slice (some ⟨bB, 0, none⟩) n cB) A Bk (ms.set kk mp) W ∧ Below w.heap.size w W) := fun W t =>
          ⟨hq_touch (by simpa using hv) hOF t, hbl.trans ⟨t.os, t.tape, t.output, t.size, fun j hj => t.block j (by have := hv.sz; omega) (by omega)⟩⟩
        have HM2 : Hid (Mok (tot l (k + 1)) (ms.set kk mp)) := HM1.out.set ⟨by rw [hmp]; exact byt_app' HMB.out.1 hPB.out, by rw [hmp, List.length_append, HX.out]; have := HMB.out.2; omega⟩ kk
        clear hv hc0 hc1 h3 hOF hOs hNF hNs hbl SQ FW d0 d2 hpv hmp
        go_wp2_with fail
        go_loopw [9] (fun i wq => ∃ j : Nat, i = .int .i64 (j : Int) ∧ j ≤ p.length ∧ Hid (∃ cur : Array Value, wq.heap[F]? = some (.cells cur 5 (0, 0)) ∧ ∀ q, q < p.length → ∃ x : Nat, x < 256 ∧ cur[q]? = some (.int .u8 (x : Int))) ∧ Hid (Touch F Wq wq)) (fun i _ => p.length - (intOf i).toNat)
        case atStart => exact ⟨0, rfl, by omega, I0, TQ⟩
        case round =>
          clear I0 TQ
          obtain ⟨j, rfl, hj, I, TQ⟩ := hrel
          have c2 := d2q.out _ TQ.out
          by_cases hjl : j < p.length
          · have hj0 : (0 : Int) ≤ (j : Int) := by omega
            have hj1 : (j : Int) < (p.length : Int) := by omega
            have hj2 : (j : Int) < (p.length : Int) + 8 := by omega
            obtain ⟨cur, hcur, hx⟩ := I.out
            obtain ⟨x, hx256, hxj⟩ := hx j hjl
            have cx : wr.cell? ⟨F, j, none⟩ = some (.int .u8 (x : Int)) := (cell_of_row wr _ _ _ _ _ hcur).trans hxj
            have fz : wr.frozen? ⟨F, j, none⟩ = false := frozen_of_row wr _ _ _ _ hcur
            have hnx := YtkppejaigodgiacDoor.not_u8 x hx256
            have I2 : Hid (∃ cur : Array Value, (wr.setCell ⟨F, j, none⟩ (.int .u8 ((255 - x : Nat) : Int))).heap[F]? = some (.cells cur 5 (0, 0)) ∧ ∀ q, q < p.length → ∃ x : Nat, x < 256 ∧ cur[q]? = some (.int .u8 (x : Int))) := by
              refine ⟨_, heap_setCell_same _ _ _ _ _ _ hcur, fun q hq => ?_⟩
              by_cases he : q = j
              · subst he
                exact ⟨255 - x, by omega, Array.getElem?_setIfInBounds_self_of_lt (Array.getElem?_eq_some_iff.1 hxj).1⟩
              · rw [Array.getElem?_setIfInBounds_ne (Ne.symm he)]
                exact hx q hq
            have TQ2 : Hid (Touch F Wq (wr.setCell ⟨F, j, none⟩ (.int .u8 ((255 - x : Nat) : Int)))) := Touch.setCell TQ.out _
            clear I TQ hcur hx hxj
            go_wp2
            exact ⟨⟨j + 1, by rfl, by omega, I2, TQ2⟩, by simp only [intOf]; omega⟩
          · have hj1 : ¬ ((j : Int) < (p.length : Int)) := by omega
            have H2 : Hid _ := (FIN.out _ TQ.out).1
            have B2 : Hid _ := (FIN.out _ TQ.out).2
            go_wp2
            exact ⟨⟨k + 1, A, Bk, _, by rfl, by omega, H2, by have := HN.out; omega, by have := HN.out; omega, HM2, B2⟩, by simp only [intOf]; omega⟩
    · have hk1 : ¬ ((k : Int) < (L : Int)) := by omega
      have hn1 : n ≤ 2097152 := by omega
      have HM1 : Hid (Mok 1048576 ms) := HM.out.mono (Nat.le_trans (tot_le l k) HT.out)
      rename_i K hKK
      have HT2 : Hid (∀ a w', Code.wp Tryd.prog tail4 (bodyPost Tryd.prog Tryd.f4 fun e w' => e = .returned (.bool true) ∧ Below w.heap.size w w') a w' → K a w') := hKK
      clear hKK
      go_wp2
      refine HT2.out _ _ ?_
      refine tailE w.heap.size bA bB n cA cB A Bk ms HN.out hn1 HM1.out w TT.out _ _ _ _ _ _ _ _ _ _ _ _ _ _ _ _ _ _ _ _ _ _ _ _ _ _ _ _ _ _ _ _ _ _ _ _ _ _ _ _ _ _ _ _ _ _ _ _ _ _ _ _ _ _ _ _ _ _ _ _ _ _ _ _ _ _ _ _ _ _ _ _ _ _ _ _ _ _ _ _ _ _ _ _ _ _ _ _ _ _ _ _ _ _ _ _ _ _ _ _ _ _ _ _ _ _ _ _ _ _ _ _ _ _ _ _ _ _ _ _ _ _ _ _ _ _ _ _ _ _ _ _ _ _ _ _ _ _ _ _ _ _ _ _ _ _ _ _ _ _ _ _ _ _ _ _ _ _ _ _ _ _ _ _ _ _ _ _ _ _ _ _ _ _ _ _ _ HQ HBL _ ?_
      exact fun w' h => ⟨rfl, h⟩
end Go.Proofs.YtkppejaigodgiacDoor.Hash
