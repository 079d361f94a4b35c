/- JournalReplays: the document's takes. Made by a program. -/
import Derived.Test.YtlhpkpedooklnaaDoorJsD
import Derived.Test.YtlhpkpedooklnaaDoorJsE
namespace Go.Proofs.YtlhpkpedooklnaaDoor
open Go.RowKit
open JM
set_option maxRecDepth 100000 in
set_option maxHeartbeats 3200000 in
theorem takes2 (B g : Nat) (W : World) (s : St) (v : Value) (body : List Nat) (num stop : Nat) (hS : RdS B g W s) (hg : g < B) (hB : B ≤ W.heap.size) (hv : Bl W v body) (hlim : body.length ≤ LIM) (h1 : s.headed = true) (h2 : s.live = false) (hbl : s.base.length < 100000000) (hpe : s.pending = []) (hbc : s.batches = []) :
    Calls Tryd.prog 23 #[.pointer (some ⟨g, 0, none⟩), .int .i64 2, .int .i64 (num : Int), v, .int .i64 (stop : Int)] W (TakesP B g W s ⟨2, num, body⟩ stop) := by
  have hbyt : Byt body := by
    obtain ⟨_, _, _, _, _, hb, _⟩ := hv
    exact hb
  obtain ⟨ab, at_, ap, cb, ct, cp, P, hr, hBP, hPW, hfx, hp, hpn, hbn⟩ := hS
  have hbt := hfx W (fun _ _ _ => rfl)
  obtain ⟨Z, hZ⟩ : ∃ Z, W.drew = Z := ⟨_, rfl⟩
  have zb : Below W.heap.size W Z := by rw [← hZ]; exact ⟨rfl, rfl, rfl, Nat.le_refl _, fun _ _ => rfl⟩
  have zs : Z.heap.size = W.heap.size := by rw [← hZ]; rfl
  have CC := copR_any Z v body (hv.below zb) hlim
  obtain ⟨Z1, hZ1⟩ : ∃ Z1, Z.alloc (.cells (bs body).toArray 5) = Z1 := ⟨_, rfl⟩
  have z1b : Below W.heap.size W Z1 := by rw [← hZ1]; exact zb.alloc (by omega) _
  have z1s : Z1.heap.size = Z.heap.size + 1 := by rw [← hZ1]; simp
  have ho : Ob Z.heap.size Z1 (.slice (some ⟨Z.heap.size, 0, none⟩) body.length body.length) body := by rw [← hZ1]; exact Ob.of_new Z body hbyt hlim
  have hb1 := hbt.1.keep (stay_below z1b)
  obtain ⟨a3, c3, x3, hr3, hl3, hG⟩ := hb1.add (by omega) (ho.mono (by omega)) hbl
  have hgW : g < W.heap.size := by omega
  have z1g := (z1b.block g hgW).trans hr
  have x3g := (hG.low g (by omega) (by omega)).trans z1g
  have zg := (zb.block g hgW).trans hr
  have c4 : Z.cell? ⟨g, 4, none⟩ = some (.slice ab s.base.length cb) := (cell_of_row _ _ _ _ _ _ zg).trans rfl
  have d4 : Z1.cell? ⟨g, 4, none⟩ = some (.slice ab s.base.length cb) := (cell_of_row _ _ _ _ _ _ z1g).trans rfl
  have e4 : x3.cell? ⟨g, 4, none⟩ = some (.slice ab s.base.length cb) := (cell_of_row _ _ _ _ _ _ x3g).trans rfl
  have e4f : x3.frozen? ⟨g, 4, none⟩ = false := frozen_of_row _ _ _ _ _ x3g
  obtain ⟨Z2, hZ2⟩ : ∃ Z2, Z1.alloc (.cells #[.slice (some ⟨Z.heap.size, 0, none⟩) body.length body.length] 22) = Z2 := ⟨_, rfl⟩
  have f4 : Z2.cell? ⟨g, 4, none⟩ = some (.slice ab s.base.length cb) := by
    rw [← hZ2]
    exact (cell_of_row _ _ _ _ _ _ ((heap_alloc_old Z1 _ (h := by omega)).trans z1g)).trans rfl
  obtain ⟨Z4, hZ4⟩ : ∃ Z4, x3.setCell ⟨g, 4, none⟩ (.slice a3 (s.base.length + 1) c3) = Z4 := ⟨_, rfl⟩
  have z4g : (x3.setCell ⟨g, 4, none⟩ (.slice a3 (s.base.length + 1) c3)).heap[g]? = _ := heap_setCell_same x3 g 4 _ _ (.slice a3 (s.base.length + 1) c3) x3g
  have z4u : Bu B g x3 Z4 := by rw [← hZ4]; exact Bu.set _ _ _
  have z4o : ∀ k : Nat, k ≠ g → Z4.heap[k]? = x3.heap[k]? := fun k hk => by rw [← hZ4]; exact heap_setCell_other x3 ⟨g, 4, none⟩ k _ hk
  rw [hZ4] at z4g
  have hfin : TakesP B g W s ⟨2, num, body⟩ stop (.returned (.bool true)) Z4 := by
    have hGu : Bu B g Z1 x3 := ⟨hG.os, hG.tape, hG.output, hG.size, fun k hk _ => hG.low k (by omega) (by omega)⟩
    refine ⟨((Bu.below z1b hB).trans hGu).trans z4u, ?_⟩
    have htk : s.take ⟨2, num, body⟩ stop = some { s with base := s.base ++ [body] } := by unfold St.take; rw [if_neg (by rw [h1]; decide), if_pos h2, if_pos rfl]
    rw [htk]
    refine ⟨rfl, ?_⟩
    have e9 : (s.base ++ [body]).length = s.base.length + 1 := by simp
    have z4s : Z4.heap.size = x3.heap.size := by rw [← hZ4]; simp
    obtain ⟨rfl, rfl⟩ := hpn hpe
    have l4 : Ll B Z4 (.slice a3 (s.base.length + 1) c3) (s.base ++ [body]) := hl3.keep (fun k _ _ hk _ _ => z4o k (by omega))
    obtain ⟨rfl, rfl⟩ := hbn hbc
    refine ⟨a3, none, none, c3, 0, 0, Z4.heap.size, ?_, ?_, Nat.le_refl _, fun w' hag => ⟨?_, ?_⟩, ?_, fun _ => ⟨rfl, rfl⟩, fun _ => ⟨rfl, rfl⟩⟩
    · rw [z4g]
      show some _ = some (Obj.cells (rgA _ (.slice a3 (s.base ++ [body]).length c3) _ _ 0 0) _ _)
      rw [e9]
      rfl
    · have := hG.size; omega
    · show Ll B w' (.slice a3 (s.base ++ [body]).length c3) _
      rw [e9]
      exact l4.fix w' hag
    · show Lb B w' (.slice none s.batches.length 0) s.batches
      rw [hbc]
      exact Lb.nil _ _
    · show Ll _ _ (.slice none s.pending.length 0) s.pending
      rw [hpe]
      exact Ll.nil _ _
  have HF := mkHid hfin
  clear hfin z4u z4o z4g hbt hfx hp hpn hbn hb1 hl3 hG ho x3g z1g zg hr
  rw [hZ1] at CC
  rw [hZ2] at hr3
  go_enter Tryd.func23, Tryd.ntmps23
  go_upto_region 10 with fail
  rename_i K hK
  replace hK := mkHid hK
  refine wp_region_vals (ops := reg10t) (V := V10t g cb s.base.length body.length body.length Z1.heap.size (s.base.length + 1) c3 ab (some ⟨Z.heap.size, 0, none⟩) a3 v) (S := SW 14 7 8 9 13 5 Z Z1 Z2 x3 Z4) (by kernel_rfl) (fun i o ho => (okR_at okR10t ho).1) (fun i j o oj d ho hj q1 q2 => (okR_at okR10t ho).2.2 j oj d hj q1 q2) (fun i o d ho q => (okR_at okR10t ho).2.1 d q)
    (step10t _ g cb s.base.length body.length body.length Z1.heap.size (s.base.length + 1) c3 ab (some ⟨Z.heap.size, 0, none⟩) a3 v _ _ rfl rfl (fun i hi listed X h => have q := of_decide_eq_true hi; h.mv i q.1 (Ne.symm q.2.1) (Ne.symm q.2.2.1) (Ne.symm q.2.2.2.1) (Ne.symm q.2.2.2.2)) (fun listed X h _ hu _ => ?_) (fun listed X h _ hu _ => ?_) (fun listed X h _ hu hd => ?_) (fun listed X h _ hu hd => ?_) (fun listed X h _ hu hd => ?_)) ?_ ?_
  · obtain ⟨rfl, h'⟩ := h.c (by decide) (by decide) (by decide) (by decide) hu
    refine CC.mono ?_
    rintro e x ⟨rfl, rfl⟩
    exact ⟨rfl, hZ1 ▸ h'⟩
  · have hm := h.mv 5 (by decide) (by decide) (by decide) (by decide) (by decide)
    refine ⟨X, ?_, hm⟩
    rcases h.any hu with rfl | rfl | rfl | rfl
    · simp [go_sem, c4]
    · simp [go_sem, d4]
    · simp [go_sem, f4]
    · simp [go_sem, e4]
  · obtain ⟨rfl, h'⟩ := h.b (by decide) (by decide) (by decide) (by decide) hu (hd 7 (by kernel_rfl))
    refine ⟨Z2, ?_, h'⟩
    rw [← hZ2]
    simp [go_sem]
  · obtain ⟨rfl, h'⟩ := h.a (by decide) (by decide) hu (hd 8 (by kernel_rfl))
    exact ⟨x3, hr3, h'⟩
  · obtain ⟨rfl, h'⟩ := h.t (by decide) hu (hd 9 (by kernel_rfl)) (hd 5 (by kernel_rfl))
    refine ⟨Z4, ?_, h'⟩
    rw [← hZ4]
    simp [go_sem, e4, e4f]
  · rw [hZ]
    exact SW.start _ _ _ _ _ _ _ _ _ _ _
  · intro x hx
    obtain rfl := hx.fin (by decide)
    rw [put10t]
    refine hK.out _ _ ?_
    clear hK
    go_wp2_with fail
    go_ret
    exact HF.out
set_option maxRecDepth 100000 in
set_option maxHeartbeats 3200000 in
theorem takes4 (B g : Nat) (W : World) (s : St) (v : Value) (body : List Nat) (num stop : Nat) (hS : RdS B g W s) (hg : g < B) (hB : B ≤ W.heap.size) (hv : Bl W v body) (hlim : body.length ≤ LIM) (h1 : s.headed = true) (h2 : s.live = true) (hbl : s.pending.length < 100000000) :
    Calls Tryd.prog 23 #[.pointer (some ⟨g, 0, none⟩), .int .i64 4, .int .i64 (num : Int), v, .int .i64 (stop : Int)] W (TakesP B g W s ⟨4, num, body⟩ stop) := by
  have hbyt : Byt body := by
    obtain ⟨_, _, _, _, _, hb, _⟩ := hv
    exact hb
  obtain ⟨ab, at_, ap, cb, ct, cp, P, hr, hBP, hPW, hfx, hp, hpn, hbn⟩ := hS
  have hbt := hfx W (fun _ _ _ => rfl)
  obtain ⟨Z, hZ⟩ : ∃ Z, W.drew = Z := ⟨_, rfl⟩
  have zb : Below W.heap.size W Z := by rw [← hZ]; exact ⟨rfl, rfl, rfl, Nat.le_refl _, fun _ _ => rfl⟩
  have zs : Z.heap.size = W.heap.size := by rw [← hZ]; rfl
  have CC := copR_any Z v body (hv.below zb) hlim
  obtain ⟨Z1, hZ1⟩ : ∃ Z1, Z.alloc (.cells (bs body).toArray 5) = Z1 := ⟨_, rfl⟩
  have z1b : Below W.heap.size W Z1 := by rw [← hZ1]; exact zb.alloc (by omega) _
  have z1s : Z1.heap.size = Z.heap.size + 1 := by rw [← hZ1]; simp
  have ho : Ob Z.heap.size Z1 (.slice (some ⟨Z.heap.size, 0, none⟩) body.length body.length) body := by rw [← hZ1]; exact Ob.of_new Z body hbyt hlim
  have hb1 := hp.keep (stay_below z1b)
  obtain ⟨a3, c3, x3, hr3, hl3, hG⟩ := hb1.add (by omega) (ho.mono (by omega)) hbl
  have hgW : g < W.heap.size := by omega
  have z1g := (z1b.block g hgW).trans hr
  have x3g := (hG.low g (by omega) (by omega)).trans z1g
  have zg := (zb.block g hgW).trans hr
  have c4 : Z.cell? ⟨g, 9, none⟩ = some (.slice ap s.pending.length cp) := (cell_of_row _ _ _ _ _ _ zg).trans rfl
  have d4 : Z1.cell? ⟨g, 9, none⟩ = some (.slice ap s.pending.length cp) := (cell_of_row _ _ _ _ _ _ z1g).trans rfl
  have e4 : x3.cell? ⟨g, 9, none⟩ = some (.slice ap s.pending.length cp) := (cell_of_row _ _ _ _ _ _ x3g).trans rfl
  have e4f : x3.frozen? ⟨g, 9, none⟩ = false := frozen_of_row _ _ _ _ _ x3g
  obtain ⟨Z2, hZ2⟩ : ∃ Z2, Z1.alloc (.cells #[.slice (some ⟨Z.heap.size, 0, none⟩) body.length body.length] 22) = Z2 := ⟨_, rfl⟩
  have f4 : Z2.cell? ⟨g, 9, none⟩ = some (.slice ap s.pending.length cp) := by
    rw [← hZ2]
    exact (cell_of_row _ _ _ _ _ _ ((heap_alloc_old Z1 _ (h := by omega)).trans z1g)).trans rfl
  obtain ⟨Z4, hZ4⟩ : ∃ Z4, x3.setCell ⟨g, 9, none⟩ (.slice a3 (s.pending.length + 1) c3) = Z4 := ⟨_, rfl⟩
  have z4g : (x3.setCell ⟨g, 9, none⟩ (.slice a3 (s.pending.length + 1) c3)).heap[g]? = _ := heap_setCell_same x3 g 9 _ _ (.slice a3 (s.pending.length + 1) c3) x3g
  have z4u : Bu B g x3 Z4 := by rw [← hZ4]; exact Bu.set _ _ _
  have z4o : ∀ k : Nat, k ≠ g → Z4.heap[k]? = x3.heap[k]? := fun k hk => by rw [← hZ4]; exact heap_setCell_other x3 ⟨g, 9, none⟩ k _ hk
  rw [hZ4] at z4g
  have hfin : TakesP B g W s ⟨4, num, body⟩ stop (.returned (.bool true)) Z4 := by
    have hGu : Bu B g Z1 x3 := ⟨hG.os, hG.tape, hG.output, hG.size, fun k hk _ => hG.low k (by omega) (by omega)⟩
    refine ⟨((Bu.below z1b hB).trans hGu).trans z4u, ?_⟩
    have htk : s.take ⟨4, num, body⟩ stop = some { s with pending := s.pending ++ [body] } := by unfold St.take; rw [if_neg (by rw [h1]; decide), if_neg (by rw [h2]; decide), if_pos rfl]
    rw [htk]
    refine ⟨rfl, ?_⟩
    have e9 : (s.pending ++ [body]).length = s.pending.length + 1 := by simp
    have z4s : Z4.heap.size = x3.heap.size := by rw [← hZ4]; simp
    have l4 : Ll P Z4 (.slice a3 (s.pending.length + 1) c3) (s.pending ++ [body]) := hl3.keep (fun k _ _ hk _ _ => z4o k (by omega))
    refine ⟨ab, at_, a3, cb, ct, c3, P, ?_, hBP, ?_, fun w' hag => hfx w' (fun k h1 h2 => (hag k h1 h2).trans ((z4o k (by omega)).trans ((hG.low k h2 (by omega)).trans (z1b.block k (by omega))))), ?_, fun h => ?_, hbn⟩
    · rw [z4g]
      show some _ = some (Obj.cells (rgA _ _ _ (.slice a3 (s.pending ++ [body]).length c3) 0 0) _ _)
      rw [e9]
      rfl
    · have := hG.size; omega
    · show Ll P Z4 (.slice a3 (s.pending ++ [body]).length c3) _
      rw [e9]
      exact l4
    · simp at h
  have HF := mkHid hfin
  clear hfin z4u z4o z4g hbt hfx hp hpn hbn hb1 hl3 hG ho x3g z1g zg hr
  rw [hZ1] at CC
  rw [hZ2] at hr3
  go_enter Tryd.func23, Tryd.ntmps23
  go_upto_region 15 with fail
  rename_i K hK
  replace hK := mkHid hK
  refine wp_region_vals (ops := reg15t) (V := V15t g cp s.pending.length body.length body.length Z1.heap.size (s.pending.length + 1) c3 ap (some ⟨Z.heap.size, 0, none⟩) a3 v) (S := SW 12 6 7 8 11 4 Z Z1 Z2 x3 Z4) (by kernel_rfl) (fun i o ho => (okR_at okR15t ho).1) (fun i j o oj d ho hj q1 q2 => (okR_at okR15t ho).2.2 j oj d hj q1 q2) (fun i o d ho q => (okR_at okR15t ho).2.1 d q)
    (step15t _ g cp s.pending.length body.length body.length Z1.heap.size (s.pending.length + 1) c3 ap (some ⟨Z.heap.size, 0, none⟩) a3 v _ _ rfl rfl (fun i hi listed X h => have q := of_decide_eq_true hi; h.mv i q.1 (Ne.symm q.2.1) (Ne.symm q.2.2.1) (Ne.symm q.2.2.2.1) (Ne.symm q.2.2.2.2)) (fun listed X h _ hu _ => ?_) (fun listed X h _ hu _ => ?_) (fun listed X h _ hu hd => ?_) (fun listed X h _ hu hd => ?_) (fun listed X h _ hu hd => ?_)) ?_ ?_
  · obtain ⟨rfl, h'⟩ := h.c (by decide) (by decide) (by decide) (by decide) hu
    refine CC.mono ?_
    rintro e x ⟨rfl, rfl⟩
    exact ⟨rfl, hZ1 ▸ h'⟩
  · have hm := h.mv 4 (by decide) (by decide) (by decide) (by decide) (by decide)
    refine ⟨X, ?_, hm⟩
    rcases h.any hu with rfl | rfl | rfl | rfl
    · simp [go_sem, c4]
    · simp [go_sem, d4]
    · simp [go_sem, f4]
    · simp [go_sem, e4]
  · obtain ⟨rfl, h'⟩ := h.b (by decide) (by decide) (by decide) (by decide) hu (hd 6 (by kernel_rfl))
    refine ⟨Z2, ?_, h'⟩
    rw [← hZ2]
    simp [go_sem]
  · obtain ⟨rfl, h'⟩ := h.a (by decide) (by decide) hu (hd 7 (by kernel_rfl))
    exact ⟨x3, hr3, h'⟩
  · obtain ⟨rfl, h'⟩ := h.t (by decide) hu (hd 8 (by kernel_rfl)) (hd 4 (by kernel_rfl))
    refine ⟨Z4, ?_, h'⟩
    rw [← hZ4]
    simp [go_sem, e4, e4f]
  · rw [hZ]
    exact SW.start _ _ _ _ _ _ _ _ _ _ _
  · intro x hx
    obtain rfl := hx.fin (by decide)
    rw [put15t]
    refine hK.out _ _ ?_
    clear hK
    go_wp2_with fail
    go_ret
    exact HF.out
end Go.Proofs.YtlhpkpedooklnaaDoor
