/- JournalReplays: the document's takes, heads, ends and commits. -/
import Derived.Test.YtlhpkpedooklnaaDoorJsF
import Derived.Test.YtlhpkpedooklnaaDoorJrE
namespace Go.Proofs.YtlhpkpedooklnaaDoor
open Go.RowKit
open JM
set_option maxRecDepth 100000 in
set_option maxHeartbeats 3200000 in
theorem takes1 (B g : Nat) (W : World) (s : St) (v : Value) (body : List Nat) (num stop : Nat) (hS : RdS B g W s) (hg : g < B) (hB : B ≤ W.heap.size) (hv : Bl W v body) (h8 : body.length = 8) (h1 : s.headed = false) :
    Calls Tryd.prog 23 #[.pointer (some ⟨g, 0, none⟩), .int .i64 1, .int .i64 (num : Int), v, .int .i64 (stop : Int)] W (TakesP B g W s ⟨1, num, body⟩ stop) := by
  have CL := low_any v body W hv (by omega)
  have hS0 := hS
  obtain ⟨ab, at_, ap, cb, ct, cp, P, hr, hBP, hPW, hfx, hp, hpn, hbn⟩ := hS
  have htk : s.take ⟨1, num, body⟩ stop = if 1 ≤ le body ∧ le body ≤ 4611686018427387904 then some { s with headed := true, gen := num, first := le body } else none := by unfold St.take; rw [if_pos h1]
  obtain ⟨n, hn⟩ : ∃ n, le body = n := ⟨_, rfl⟩
  rw [hn] at CL htk
  by_cases hc : 1 ≤ n ∧ n ≤ 4611686018427387904
  · rw [if_pos hc] at htk
    rw [show lowN n = (n : Int) by unfold lowN; rw [if_pos hc.2]] at CL
    have c1 : ¬ (n : Int) < 1 := by omega
    have c8 : W.cell? ⟨g, 8, none⟩ = some (.bool s.headed) := (cell_of_row _ _ _ _ _ _ hr).trans rfl
    have f8 : W.frozen? ⟨g, 8, none⟩ = false := frozen_of_row _ _ _ _ _ hr
    obtain ⟨Y1, hY1⟩ : ∃ Y, W.setCell ⟨g, 8, none⟩ (.bool true) = Y := ⟨_, rfl⟩
    have y1 := heap_setCell_same W g 8 _ _ (.bool true) hr
    rw [hY1] at y1
    have c2 : Y1.cell? ⟨g, 2, none⟩ = some (.int .i64 (s.gen : Int)) := (cell_of_row _ _ _ _ _ _ y1).trans rfl
    have f2 : Y1.frozen? ⟨g, 2, none⟩ = false := frozen_of_row _ _ _ _ _ y1
    obtain ⟨Y2, hY2⟩ : ∃ Y, Y1.setCell ⟨g, 2, none⟩ (.int .i64 (num : Int)) = Y := ⟨_, rfl⟩
    have y2 := heap_setCell_same Y1 g 2 _ _ (.int .i64 (num : Int)) y1
    rw [hY2] at y2
    have c3 : Y2.cell? ⟨g, 3, none⟩ = some (.int .i64 (s.first : Int)) := (cell_of_row _ _ _ _ _ _ y2).trans rfl
    have f3 : Y2.frozen? ⟨g, 3, none⟩ = false := frozen_of_row _ _ _ _ _ y2
    obtain ⟨Y3, hY3⟩ : ∃ Y, Y2.setCell ⟨g, 3, none⟩ (.int .i64 (n : Int)) = Y := ⟨_, rfl⟩
    have y3 := heap_setCell_same Y2 g 3 _ _ (.int .i64 (n : Int)) y2
    rw [hY3] at y3
    have hb : But g W Y3 := by rw [← hY3, ← hY2, ← hY1]; exact (((But.refl g W).set 8 _).set 2 _).set 3 _
    have hfin : TakesP B g W s ⟨1, num, body⟩ stop (.returned (.bool true)) Y3 := by
      refine ⟨⟨hb.os, hb.tape, hb.output, hb.size, fun k hk hn => hb.block k (by omega) hn⟩, ?_⟩
      rw [htk]
      refine ⟨rfl, ab, at_, ap, cb, ct, cp, P, y3.trans rfl, hBP, Nat.le_trans hPW hb.size, fun w' hag => hfx w' (fun k k1 k2 => (hag k k1 k2).trans (hb.block k (by omega) (by omega))), hp.keep (fun k _ _ hk _ hc => hb.block k (Array.getElem?_eq_some_iff.1 hc).1 (by omega)), hpn, hbn⟩
    have HF := mkHid hfin
    clear hfin hb y1 y2 y3 hr hfx hp hpn hbn htk hS0
    go_enter Tryd.func23, Tryd.ntmps23
    go_wp2_with fail
    refine CL.mono ?_
    rintro e w ⟨rfl, rfl⟩
    dsimp only
    clear CL
    go_wp2_with fail
    go_ret
    exact HF.out
  · rw [if_neg hc] at htk
    have hlt : lowN n < 1 := by unfold lowN; split <;> omega
    obtain ⟨m, hm⟩ : ∃ m, lowN n = m := ⟨_, rfl⟩
    rw [hm] at CL hlt
    have hfin : TakesP B g W s ⟨1, num, body⟩ stop (.returned (.bool false)) W := ⟨Bu.refl _ _ _, by rw [htk]; exact ⟨rfl, hS0⟩⟩
    have HF := mkHid hfin
    clear hfin hr hfx hp hpn hbn htk hS0
    go_enter Tryd.func23, Tryd.ntmps23
    go_wp2_with fail
    refine CL.mono ?_
    rintro e w ⟨rfl, rfl⟩
    dsimp only
    clear CL
    go_wp2_with fail
    go_ret
    exact HF.out
set_option maxRecDepth 100000 in
set_option maxHeartbeats 3200000 in
theorem takes3 (B g : Nat) (W : World) (s : St) (v : Value) (body : List Nat) (num stop : Nat) (hS : RdS B g W s) (hg : g < B) (h1 : s.headed = true) (h2 : s.live = false) :
    Calls Tryd.prog 23 #[.pointer (some ⟨g, 0, none⟩), .int .i64 3, .int .i64 (num : Int), v, .int .i64 (stop : Int)] W (TakesP B g W s ⟨3, num, body⟩ stop) := by
  obtain ⟨ab, at_, ap, cb, ct, cp, P, hr, hBP, hPW, hfx, hp, hpn, hbn⟩ := hS
  have htk : s.take ⟨3, num, body⟩ stop = some { s with live := true, good := stop } := by unfold St.take; rw [if_neg (by rw [h1]; decide), if_pos h2, if_neg (show ¬ (3 : Nat) = 2 by decide)]
  have c0 : W.cell? ⟨g, 0, none⟩ = some (.bool s.live) := (cell_of_row _ _ _ _ _ _ hr).trans rfl
  have f0 : W.frozen? ⟨g, 0, none⟩ = false := frozen_of_row _ _ _ _ _ hr
  obtain ⟨Y1, hY1⟩ : ∃ Y, W.setCell ⟨g, 0, none⟩ (.bool true) = Y := ⟨_, rfl⟩
  have y1 := heap_setCell_same W g 0 _ _ (.bool true) hr
  rw [hY1] at y1
  have c2 : Y1.cell? ⟨g, 1, none⟩ = some (.int .i64 (s.good : Int)) := (cell_of_row _ _ _ _ _ _ y1).trans rfl
  have f2 : Y1.frozen? ⟨g, 1, none⟩ = false := frozen_of_row _ _ _ _ _ y1
  obtain ⟨Y2, hY2⟩ : ∃ Y, Y1.setCell ⟨g, 1, none⟩ (.int .i64 (stop : Int)) = Y := ⟨_, rfl⟩
  have y2 := heap_setCell_same Y1 g 1 _ _ (.int .i64 (stop : Int)) y1
  rw [hY2] at y2
  have hb : But g W Y2 := by rw [← hY2, ← hY1]; exact ((But.refl g W).set 0 _).set 1 _
  have hfin : TakesP B g W s ⟨3, num, body⟩ stop (.returned (.bool true)) Y2 := by
    refine ⟨⟨hb.os, hb.tape, hb.output, hb.size, fun k hk hn => hb.block k (by omega) hn⟩, ?_⟩
    rw [htk]
    refine ⟨rfl, ab, at_, ap, cb, ct, cp, P, y2.trans rfl, hBP, Nat.le_trans hPW hb.size, fun w' hag => hfx w' (fun k k1 k2 => (hag k k1 k2).trans (hb.block k (by omega) (by omega))), hp.keep (fun k _ _ hk _ hc => hb.block k (Array.getElem?_eq_some_iff.1 hc).1 (by omega)), hpn, hbn⟩
  have HF := mkHid hfin
  clear hfin hb y1 y2 hr hfx hp hpn hbn htk
  go_enter Tryd.func23, Tryd.ntmps23
  go_wp2_with fail
  go_ret
  exact HF.out
theorem RdS.below {B g : Nat} {W w : World} {s : St} (h : RdS B g W s) (hb : Below W.heap.size W w) (hg : g < W.heap.size) : RdS B g w s := by
  obtain ⟨ab, at_, ap, cb, ct, cp, P, hr, hBP, hPW, hfx, hp, hpn, hbn⟩ := h
  exact ⟨ab, at_, ap, cb, ct, cp, P, (hb.block g hg).trans hr, hBP, Nat.le_trans hPW hb.size, fun w' hag => hfx w' (fun k k1 k2 => (hag k k1 k2).trans (hb.block k (by omega))), hp.keep (stay_below hb), hpn, hbn⟩
set_option maxRecDepth 100000 in
set_option maxHeartbeats 3200000 in
theorem takes5 (B g : Nat) (W : World) (s : St) (v : Value) (body : List Nat) (num stop : Nat) (hS : RdS B g W s) (hg : g < B) (hB : B ≤ W.heap.size) (hv : Bl W v body) (h4 : body.length = 4) (h1 : s.headed = true) (h2 : s.live = true) (hbl : s.batches.length < 100000000) :
    Calls Tryd.prog 23 #[.pointer (some ⟨g, 0, none⟩), .int .i64 5, .int .i64 (num : Int), v, .int .i64 (stop : Int)] W (TakesP B g W s ⟨5, num, body⟩ stop) := by
  have hS0 := hS
  obtain ⟨ab, at_, ap, cb, ct, cp, P, hr, hBP, hPW, hfx, hp, hpn, hbn⟩ := hS
  have hlt : le body < 4294967296 := by
    obtain ⟨_, _, _, _, _, hb, _⟩ := hv
    have := le_lt body hb
    rw [h4] at this
    exact this
  have htk : s.take ⟨5, num, body⟩ stop = if le body = s.pending.length then some { s with batches := s.batches ++ [s.pending], pending := [], good := stop } else none := by unfold St.take; rw [if_neg (by rw [h1]; decide), if_neg (by rw [h2]; decide), if_neg (show ¬ (5 : Nat) = 4 by decide)]
  have hd : ∀ m, Below W.heap.size W (W.drewN m) := fun m => below_drewN (Below.refl _ _) _
  have CL := mkHid (fun m => low_any v body (W.drewN m) (hv.below (hd m)) (by omega))
  have c9 : ∀ m, (W.drewN m).cell? ⟨g, 9, none⟩ = some (.slice ap s.pending.length cp) := fun m => (cell_of_row _ _ _ _ _ _ (((hd m).block g (by omega)).trans hr)).trans rfl
  obtain ⟨n, hn⟩ : ∃ n, le body = n := ⟨_, rfl⟩
  rw [hn] at htk hlt CL
  rw [show lowN n = (n : Int) by unfold lowN; rw [if_pos (by omega)]] at CL
  have hgW : g < W.heap.size := by omega
  by_cases hc : n = s.pending.length
  · rw [if_pos hc] at htk
    subst hc
    replace htk := mkHid htk
    replace hS0 := mkHid hS0
    have HR := mkHid (And.intro hr (And.intro hBP (And.intro hPW (And.intro hfx (And.intro hp (And.intro hpn hbn))))))
    clear hr hBP hPW hfx hp hpn hbn hv
    go_enter Tryd.func23, Tryd.ntmps23
    go_wp2_with fail
    go_quiet ((go_at_call 21; exact Calls.quiet_of_same (CL.out _)))
    rename_i nq
    obtain ⟨Y, hY⟩ : ∃ Y, W.drewN nq = Y := ⟨_, rfl⟩
    have yb : Below W.heap.size W Y := by rw [← hY]; exact hd nq
    have ys : Y.heap.size = W.heap.size := by rw [← hY]; rfl
    rw [hY]
    clear hY c9 CL hd
    obtain ⟨Z, hZ⟩ : ∃ Z, Y.drew = Z := ⟨_, rfl⟩
    have zb : Below W.heap.size W Z := by rw [← hZ]; exact yb.trans ⟨rfl, rfl, rfl, Nat.le_refl _, fun _ _ => rfl⟩
    have zs : Z.heap.size = W.heap.size := by rw [← hZ]; exact ys
    obtain ⟨hr, hBP, hPW, hfx, hp, hpn, hbn⟩ := HR.out
    have hbt := hfx W (fun _ _ _ => rfl)
    have zg := (zb.block g hgW).trans hr
    have hp1 : Ll B Z (.slice ap s.pending.length cp) s.pending := (hp.mono hBP).keep (stay_below zb)
    have ht1 := hbt.2.keep (stay_below zb)
    obtain ⟨a3, c3, x3, hr3, hl3, hG⟩ := ht1.add (by omega) hp1 hbl
    have x3g := (hG.low g hg (by omega)).trans zg
    have c5 : Z.cell? ⟨g, 5, none⟩ = some (.slice at_ s.batches.length ct) := (cell_of_row _ _ _ _ _ _ zg).trans rfl
    have c9 : Z.cell? ⟨g, 9, none⟩ = some (.slice ap s.pending.length cp) := (cell_of_row _ _ _ _ _ _ zg).trans rfl
    have e5 : x3.cell? ⟨g, 5, none⟩ = some (.slice at_ s.batches.length ct) := (cell_of_row _ _ _ _ _ _ x3g).trans rfl
    have e5f : x3.frozen? ⟨g, 5, none⟩ = false := frozen_of_row _ _ _ _ _ x3g
    obtain ⟨Z2, hZ2⟩ : ∃ Z2, Z.alloc (.cells #[.slice ap s.pending.length cp] 27) = Z2 := ⟨_, rfl⟩
    have f5 : Z2.cell? ⟨g, 5, none⟩ = some (.slice at_ s.batches.length ct) := by
      rw [← hZ2]
      exact (cell_of_row _ _ _ _ _ _ ((heap_alloc_old Z _ (h := by omega)).trans zg)).trans rfl
    obtain ⟨Z4, hZ4⟩ : ∃ Z4, x3.setCell ⟨g, 5, none⟩ (.slice a3 (s.batches.length + 1) c3) = Z4 := ⟨_, rfl⟩
    have z4g := heap_setCell_same x3 g 5 _ _ (.slice a3 (s.batches.length + 1) c3) x3g
    rw [hZ4] at z4g
    have k9 : Z4.cell? ⟨g, 9, none⟩ = some (.slice ap s.pending.length cp) := (cell_of_row _ _ _ _ _ _ z4g).trans rfl
    have k9f : Z4.frozen? ⟨g, 9, none⟩ = false := frozen_of_row _ _ _ _ _ z4g
    obtain ⟨Z5, hZ5⟩ : ∃ Z5, Z4.setCell ⟨g, 9, none⟩ (.slice none 0 0) = Z5 := ⟨_, rfl⟩
    have z5g := heap_setCell_same Z4 g 9 _ _ (.slice none 0 0) z4g
    rw [hZ5] at z5g
    have k1 : Z5.cell? ⟨g, 1, none⟩ = some (.int .i64 (s.good : Int)) := (cell_of_row _ _ _ _ _ _ z5g).trans rfl
    have k1f : Z5.frozen? ⟨g, 1, none⟩ = false := frozen_of_row _ _ _ _ _ z5g
    obtain ⟨Z6, hZ6⟩ : ∃ Z6, Z5.setCell ⟨g, 1, none⟩ (.int .i64 (stop : Int)) = Z6 := ⟨_, rfl⟩
    have z6g := heap_setCell_same Z5 g 1 _ _ (.int .i64 (stop : Int)) z5g
    rw [hZ6] at z6g
    have hb6 : But g x3 Z6 := by rw [← hZ6, ← hZ5, ← hZ4]; exact (((But.refl g x3).set 5 _).set 9 _).set 1 _
    have z6s : Z6.heap.size = x3.heap.size := by rw [← hZ6, ← hZ5, ← hZ4]; simp
    have hfin : TakesP B g W s ⟨5, num, body⟩ stop (.returned (.bool true)) Z6 := by
      refine ⟨⟨hb6.os.trans (hG.os.trans zb.os), hb6.tape.trans (hG.tape.trans zb.tape), hb6.output.trans (hG.output.trans zb.output), Nat.le_trans zb.size (Nat.le_trans hG.size hb6.size), fun k hk hn => (hb6.block k (by have := hG.size; omega) hn).trans ((hG.low k hk (by omega)).trans (zb.block k (by omega)))⟩, ?_⟩
      rw [htk.out]
      have e9 : (s.batches ++ [s.pending]).length = s.batches.length + 1 := by simp
      have l6 : Lb B Z6 (.slice a3 (s.batches.length + 1) c3) (s.batches ++ [s.pending]) := hl3.keep (stay_but hb6 hg)
      have b6 : Ll B Z6 (.slice ab s.base.length cb) s.base := ((hbt.1.keep (stay_below zb)).keep (hG.stay (fun t ht => by rcases ht with ht | ht <;> (subst ht; decide)))).keep (stay_but hb6 hg)
      refine ⟨rfl, ab, a3, none, cb, c3, 0, Z6.heap.size, ?_, ?_, Nat.le_refl _, fun w' hag => ⟨b6.fix w' hag, ?_⟩, Ll.nil _ _, fun _ => ⟨rfl, rfl⟩, fun h => by simp at h⟩
      · rw [z6g]
        show some _ = some (Obj.cells (rgA _ _ (.slice a3 (s.batches ++ [s.pending]).length c3) (.slice none ([] : List (List Nat)).length 0) 0 0) _ _)
        rw [e9]
        rfl
      · have := hG.size; omega
      · show Lb B w' (.slice a3 (s.batches ++ [s.pending]).length c3) _
        rw [e9]
        exact l6.fix w' hag
    have HF := mkHid hfin
    clear hfin hb6 z6g z5g z4g x3g zg hl3 hG ht1 hp1 hbt hr hBP hPW hfx hp hpn hbn htk hS0 HR z6s zb yb
    rw [hZ2] at hr3
    go_upto_region 19 with fail
    rename_i K hK
    replace hK := mkHid hK
    refine wp_region_vals (ops := reg19t) (V := V19t g ct s.batches.length s.pending.length cp Z.heap.size (s.batches.length + 1) c3 at_ ap a3 v) (S := SW 16 9 10 11 15 5 Z Z Z2 x3 Z4) (by kernel_rfl) (fun i o ho => (okR_at okR19t ho).1) (fun i j o oj d ho hj q1 q2 => (okR_at okR19t ho).2.2 j oj d hj q1 q2) (fun i o d ho q => (okR_at okR19t ho).2.1 d q)
      (step19t _ g ct s.batches.length s.pending.length cp Z.heap.size (s.batches.length + 1) c3 at_ ap a3 v _ _ rfl (fun i hi listed X h => have q := of_decide_eq_true hi; h.mv i q.1 (Ne.symm q.2.1) (Ne.symm q.2.2.1) (Ne.symm q.2.2.2.1) (Ne.symm q.2.2.2.2)) (fun listed X h _ hu _ => ?_) (fun listed X h _ hu _ => ?_) (fun listed X h _ hu hd => ?_) (fun listed X h _ hu hd => ?_) (fun listed X h _ hu hd => ?_)) ?_ ?_
    · obtain ⟨rfl, h'⟩ := h.c (by decide) (by decide) (by decide) (by decide) hu
      refine ⟨X, ?_, h'⟩
      simp [go_sem, c9]
    · have hm := h.mv 5 (by decide) (by decide) (by decide) (by decide) (by decide)
      refine ⟨X, ?_, hm⟩
      rcases h.any hu with rfl | rfl | rfl | rfl
      · simp [go_sem, c5]
      · simp [go_sem, c5]
      · simp [go_sem, f5]
      · simp [go_sem, e5]
    · obtain ⟨rfl, h'⟩ := h.b (by decide) (by decide) (by decide) (by decide) hu (hd 9 (by kernel_rfl))
      refine ⟨Z2, ?_, h'⟩
      rw [← hZ2]
      simp [go_sem]
    · obtain ⟨rfl, h'⟩ := h.a (by decide) (by decide) hu (hd 10 (by kernel_rfl))
      exact ⟨x3, hr3, h'⟩
    · obtain ⟨rfl, h'⟩ := h.t (by decide) hu (hd 11 (by kernel_rfl)) (hd 5 (by kernel_rfl))
      refine ⟨Z4, ?_, h'⟩
      rw [← hZ4]
      simp [go_sem, e5, e5f]
    · rw [hZ]
      exact SW.start _ _ _ _ _ _ _ _ _ _ _
    · intro x hx
      obtain rfl := hx.fin (by decide)
      rw [put19t]
      refine hK.out _ _ ?_
      clear hK
      go_wp2_with fail
      go_ret
      exact HF.out
  · rw [if_neg hc] at htk
    have hc2 : ((n : Int) != (s.pending.length : Int)) = true := by rw [bne, beq_int]; simp [hc]
    have HF := mkHid (fun m => (show TakesP B g W s ⟨5, num, body⟩ stop (.returned (.bool false)) (W.drewN m) from ⟨Bu.below (hd m) hB, by rw [htk]; exact ⟨rfl, hS0.below (hd m) hgW⟩⟩))
    clear htk hS0 hr hfx hp hpn hbn hv hd
    go_enter Tryd.func23, Tryd.ntmps23
    go_wp2_with fail
    go_quiet ((go_at_call 21; exact Calls.quiet_of_same (CL.out _)))
    go_wp2_with fail
    go_ret
    exact HF.out _
end Go.Proofs.YtlhpkpedooklnaaDoor
