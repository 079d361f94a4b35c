/- The journal's device: its operations' functions. -/
import Derived.Test.YtdiflmckjpmngaaJvH
namespace Go.Proofs.Ytdiflmckjpmngaa
open Go.RowKit
/-- All else stays. -/
structure Fr (W w' : World) (v : Nat) (lv : Value) : Prop where
  os : w'.os = W.os
  tape : w'.tape = W.tape
  output : w'.output = W.output
  size : W.heap.size ≤ w'.heap.size
  block : ∀ j, j < W.heap.size → j ≠ v → lv.ownBlock ≠ some j → w'.heap[j]? = W.heap[j]?
def apM (ty : Nat) (vs : Array Value) : Sem Value := Builtin.append_ #[53, 53] ty vs
theorem toApM (ty : Nat) (vs : Array Value) : Builtin.append_ #[53, 53] ty vs = apM ty vs := rfl
theorem infoM : (Try.prog.info? 52).map (fun i => (i.zero, i.size, i.bytes)) = some (some (.agg #[.pointer none, .int .i64 0, .int .i64 0, .pointer none, .int .i64 0, .int .i64 0]), 6, 48) := by kernel_rfl
theorem cells_new (w : World) (t : Array Value) (ty : TypeId) (j : Nat) (u : Value) (hu : t.toList[j]? = some u) : (w.alloc (.cells t ty)).cell? ((⟨w.heap.size, 0, none⟩ : Addr).add j) = some u := by
  rw [Addr.add_mid, Nat.zero_add, cell_of_row _ _ _ _ _ _ (heap_alloc_new w (.cells t ty)), ← Array.getElem?_toList]
  exact hu
/-- One moment more. -/
theorem run_apM1 (w : World) (base n : Nat) (v : Value) (ls : List (Array Value)) (t : Array Value) (hown : w.ownsRow base 52 6 v n (flat ls)) (ht : t.size = 6) (h1 : t.all (·.oneCell') = true) (hb : n + 1 ≤ 1000000) (hbase : base ≤ w.heap.size) :
    ∃ v' w', (apM 53 #[v, .slice (some ⟨w.heap.size, 0, none⟩) 1 1]).run Try.prog (w.alloc (.cells t 52)) = .ok v' w' ∧ w'.ownsRow base 52 6 v' (n + 1) (flat (ls ++ [t])) ∧ (w.alloc (.cells t 52)).grownBy w' v.ownBlock ∧ (v'.ownBlock = v.ownBlock ∨ v'.ownBlock = some (w.heap.size + 1)) := by
  obtain ⟨i0, hi0, hz0, hz1, hz2⟩ := info_parts infoM
  obtain ⟨v', w', hr, ho, hg, _, hat⟩ := run_append_own_at (P := Try.prog) (w.alloc (.cells t 52)) base 53 53 52 i0 _ 6 48 Try.underlying53 hi0 hz0 hz1 hz2 rfl (by omega) v n _ (hown.alloc _) ⟨w.heap.size, 0, none⟩ 1 1 t.toList (by simp [ht]) (fun j u hu => cells_new w t _ j u hu) (fun u hu => by
      have := Array.all_eq_true_iff_forall_mem.1 h1 u (by simpa using hu)
      exact this) (by unfold maxLen; omega) (by omega) (by simp; omega)
  refine ⟨v', w', hr, ?_, hg, ?_⟩
  · rw [flat_app, show flat [t] = t.toList by simp [flat]]
    exact ho
  · simpa using hat
/-- What an operation's function answers. -/
def ClP (Q : Nat → Prop) (W : World) (z : List Nat × Nat) (e : Ending) (w' : World) : Prop := ∃ c', e = .returned (.tuple #[.agg c', .int .i64 0]) ∧ Cn (fun g => Q g ∨ W.heap.size ≤ g ∧ g < w'.heap.size) w' c' z.1 z.2 ∧ Below W.heap.size W w'
section
attribute [local go_sem ↓] toStC
theorem cn_off {Q : Nat → Prop} {W : World} {c : Array Value} {d : List Nat} {s : Nat} (h : Cn Q W c d s) (B : Nat) (C : Array Value) (hB : ∀ j, Q j → j ≠ B) : Cn Q (W.setRow B C) c d s := h.keep (fun j hj => setRow_other _ _ _ _ (hB j hj)) (fun _ h => h)
set_option maxRecDepth 100000 in
theorem sync_cl (Q : Nat → Prop) (c : Array Value) (d : List Nat) (s : Nat) (W : World) (hc : Cn Q W c d s) (hQ : ∀ j, Q j → j < W.heap.size)  : Calls Try.prog 27 #[.agg c] W (ClP Q W (d, d.length)) := by
  obtain ⟨p, rfl, hch, hs, hlim⟩ := id hc
  obtain ⟨W1, hW1⟩ : ∃ W1, (W.alloc (.cells (cnA p d.length s) 50)).alloc (.cells zC 50) = W1 := ⟨_, rfl⟩
  have bW : Below W.heap.size W W1 := by rw [← hW1]; exact below2 _ _ _
  have r1 : W1.heap[W.heap.size + 1]? = some (.cells zC 50 (0, 0)) := by rw [← hW1]; exact row2n _ _ _
  have hc1 : Cn Q W1 (cnA p d.length s) d s := hc.keep (fun j hj => bW.block j (hQ j hj)) (fun _ h => h)
  have hQ1 : ∀ j, Q j → j < W1.heap.size := fun j hj => Nat.lt_of_lt_of_le (hQ j hj) bW.size

  have HC : Hid _ := synced_any Q _ d s W1 hc1 hQ1
  have HR : Hid (Below W.heap.size W W1 ∧ W1.heap[W.heap.size + 1]? = some (.cells zC 50 (0, 0))) := ⟨bW, r1⟩
  have HW : Hid ((W.alloc (.cells #[.pointer p, .int .i64 (d.length : Int), .int .i64 (s : Int)] 50)).alloc (.cells #[.pointer none, .int .i64 0, .int .i64 0] 50) = W1) := hW1
  clear hW1 bW r1 hc1 hQ1 hch hs hlim hc
  unfold cnA at *
  go_enter Try.func27, Try.ntmps27
  go_wp2_with fail
  rw [HW.out]
  refine Calls.mono HC.out ?_
  rintro e Y ⟨c', rfl, hcY, hY⟩
  obtain ⟨pc, rfl, -⟩ := id hcY
  have rY : Y.heap[W.heap.size + 1]? = some (.cells zC 50 (0, 0)) := (hY.block _ (Array.getElem?_eq_some_iff.1 HR.out.2).1).trans HR.out.2

  have st := st_C Y (W.heap.size + 1) zC (cnA pc d.length d.length) rfl rfl (by simp [cnA, Value.oneCell']) rY
  have bY : Below W.heap.size W Y := HR.out.1.trans (hY.mono HR.out.1.size)
  have HF : Hid ((Y.setRow (W.heap.size + 1) (cnA pc d.length d.length)).heap[W.heap.size + 1]? = some (.cells (cnA pc d.length d.length) 50 (0, 0)) ∧ ClP Q W (d, d.length) (.returned (.tuple #[.agg (cnA pc d.length d.length), .int .i64 0])) (Y.setRow (W.heap.size + 1) (cnA pc d.length d.length))) := by
    refine ⟨setRow_heap _ _ _ _ _ _ rY, _, rfl, ?_, below_setRow bY (by omega) _⟩
    refine (cn_off hcY (W.heap.size + 1) _ ?_).keep (fun _ _ => rfl) (fun j hj => .inl hj)
    intro j hj e
    have := hQ j hj
    omega
  unfold cnA at *
  clear hcY hY rY bY HC
  go_wp2_with fail
  refine bodyPost_ret (results_Ct rfl _ _ (W.heap.size + 1) _ rfl rfl HF.out.1) rfl ?_
  exact HF.out.2
set_option maxRecDepth 100000 in
theorem app_cl (Q : Nat → Prop) (c : Array Value) (d : List Nat) (s : Nat) (W : World) (hc : Cn Q W c d s) (hQ : ∀ j, Q j → j < W.heap.size) (pb : Nat) (u : Value) (l : List Nat) (hl : Bl W u l) (hpb : W.heap[pb]? = some (.cells #[u] 25 (0, 0))) (hroom : d.length + l.length ≤ 67108864) : Calls Try.prog 26 #[.agg c, .pointer (some ⟨pb, 0, none⟩)] W (ClP Q W (d ++ l, s)) := by
  obtain ⟨p, rfl, hch, hs, hlim⟩ := id hc
  obtain ⟨W1, hW1⟩ : ∃ W1, (W.alloc (.cells (cnA p d.length s) 50)).alloc (.cells zC 50) = W1 := ⟨_, rfl⟩
  have bW : Below W.heap.size W W1 := by rw [← hW1]; exact below2 _ _ _
  have r1 : W1.heap[W.heap.size + 1]? = some (.cells zC 50 (0, 0)) := by rw [← hW1]; exact row2n _ _ _
  have hc1 : Cn Q W1 (cnA p d.length s) d s := hc.keep (fun j hj => bW.block j (hQ j hj)) (fun _ h => h)
  have hQ1 : ∀ j, Q j → j < W1.heap.size := fun j hj => Nat.lt_of_lt_of_le (hQ j hj) bW.size
  obtain ⟨oa, cap, rfl, -⟩ := id hl
  have hpb1 : W1.heap[pb]? = some (.cells #[.slice oa l.length cap] 25 (0, 0)) := (bW.block pb (Array.getElem?_eq_some_iff.1 hpb).1).trans hpb
  have q0 : W1.cell? ⟨pb, 0, none⟩ = some (.slice oa l.length cap) := by rw [cell_of_row _ _ _ _ _ _ hpb1]; rfl
  have HC : Hid _ := with_any Q _ d s _ l W1 hc1 hQ1 (hl.below bW) (by unfold LIM; omega)
  have HR : Hid (Below W.heap.size W W1 ∧ W1.heap[W.heap.size + 1]? = some (.cells zC 50 (0, 0))) := ⟨bW, r1⟩
  have HW : Hid ((W.alloc (.cells #[.pointer p, .int .i64 (d.length : Int), .int .i64 (s : Int)] 50)).alloc (.cells #[.pointer none, .int .i64 0, .int .i64 0] 50) = W1) := hW1
  obtain ⟨N, hN⟩ : ∃ N, d.length + l.length = N := ⟨_, rfl⟩
  have w0 : IntKind.i64.wrap ((d.length : Int) + (l.length : Int)) = (N : Int) := by rw [IntKind.wrap_i64]; omega
  have w1 : ¬ ((67108864 : Int) < (N : Int)) := by omega
  have HN : Hid ((d ++ l).length = N) := by show _ = _; rw [List.length_append]; exact hN
  rw [← hW1] at q0
  clear hW1 bW r1 hc1 hQ1 hch hs hlim hc hN hpb hpb1 hroom hl
  unfold zC cnA at q0
  unfold cnA at *
  go_enter Try.func26, Try.ntmps26
  go_wp2_with fail
  rw [HW.out]
  refine Calls.mono HC.out ?_
  rintro e Y ⟨c', rfl, hcY, hY⟩
  obtain ⟨pc, rfl, -⟩ := id hcY
  have rY : Y.heap[W.heap.size + 1]? = some (.cells zC 50 (0, 0)) := (hY.block _ (Array.getElem?_eq_some_iff.1 HR.out.2).1).trans HR.out.2
  rw [HN.out] at hcY ⊢
  have st := st_C Y (W.heap.size + 1) zC (cnA pc N s) rfl rfl (by simp [cnA, Value.oneCell']) rY
  have bY : Below W.heap.size W Y := HR.out.1.trans (hY.mono HR.out.1.size)
  have HF : Hid ((Y.setRow (W.heap.size + 1) (cnA pc N s)).heap[W.heap.size + 1]? = some (.cells (cnA pc N s) 50 (0, 0)) ∧ ClP Q W (d ++ l, s) (.returned (.tuple #[.agg (cnA pc N s), .int .i64 0])) (Y.setRow (W.heap.size + 1) (cnA pc N s))) := by
    refine ⟨setRow_heap _ _ _ _ _ _ rY, _, rfl, ?_, below_setRow bY (by omega) _⟩
    refine (cn_off hcY (W.heap.size + 1) _ ?_).keep (fun _ _ => rfl) (fun j hj => ?_)
    · intro j hj e
      have h1 := (Array.getElem?_eq_some_iff.1 HR.out.2).1
      rcases hj with h | h
      · have := hQ j h; omega
      · omega
    · have := HR.out.1.size
      rcases hj with h | h
      · exact .inl h
      · exact .inr ⟨by omega, by simpa using h.2⟩
  unfold cnA at *
  clear hcY hY rY bY HC
  go_wp2_with fail
  refine bodyPost_ret (results_Ct rfl _ _ (W.heap.size + 1) _ rfl rfl HF.out.1) rfl ?_
  exact HF.out.2
set_option maxRecDepth 100000 in
theorem cut_cl (Q : Nat → Prop) (c : Array Value) (d : List Nat) (s : Nat) (W : World) (hc : Cn Q W c d s) (hQ : ∀ j, Q j → j < W.heap.size) (pb n : Nat) (hpb : W.heap[pb]? = some (.cells #[.int .i64 (n : Int)] 3 (0, 0))) (hn : n ≤ d.length) : Calls Try.prog 28 #[.agg c, .pointer (some ⟨pb, 0, none⟩)] W (ClP Q W (d.take n, min s n)) := by
  obtain ⟨p, rfl, hch, hs, hlim⟩ := id hc
  obtain ⟨W1, hW1⟩ : ∃ W1, (W.alloc (.cells (cnA p d.length s) 50)).alloc (.cells zC 50) = W1 := ⟨_, rfl⟩
  have bW : Below W.heap.size W W1 := by rw [← hW1]; exact below2 _ _ _
  have r1 : W1.heap[W.heap.size + 1]? = some (.cells zC 50 (0, 0)) := by rw [← hW1]; exact row2n _ _ _
  have hc1 : Cn Q W1 (cnA p d.length s) d s := hc.keep (fun j hj => bW.block j (hQ j hj)) (fun _ h => h)
  have hQ1 : ∀ j, Q j → j < W1.heap.size := fun j hj => Nat.lt_of_lt_of_le (hQ j hj) bW.size
  have hpb1 : W1.heap[pb]? = some (.cells #[.int .i64 (n : Int)] 3 (0, 0)) := (bW.block pb (Array.getElem?_eq_some_iff.1 hpb).1).trans hpb
  have q0 : W1.cell? ⟨pb, 0, none⟩ = some (.int .i64 (n : Int)) := by rw [cell_of_row _ _ _ _ _ _ hpb1]; rfl
  have HC : Hid _ := cut_any Q _ d s n W1 hc1 hQ1 hn
  have HR : Hid (Below W.heap.size W W1 ∧ W1.heap[W.heap.size + 1]? = some (.cells zC 50 (0, 0))) := ⟨bW, r1⟩
  have HW : Hid ((W.alloc (.cells #[.pointer p, .int .i64 (d.length : Int), .int .i64 (s : Int)] 50)).alloc (.cells #[.pointer none, .int .i64 0, .int .i64 0] 50) = W1) := hW1
  have w0 : ¬ ((n : Int) < 0) := by omega
  have w1 : ¬ ((d.length : Int) < (n : Int)) := by omega
  have w2 : ¬ (d.length < n) := by omega
  obtain ⟨t0, ht0⟩ : ∃ t, min s n = t := ⟨_, rfl⟩
  have HN : Hid ((d.take n).length = n ∧ min s n = t0) := ⟨by rw [List.length_take]; omega, ht0⟩
  rw [← hW1] at q0
  clear hW1 bW r1 hc1 hQ1 hch hs hlim hc hpb hpb1 hn ht0
  unfold zC cnA at q0
  unfold cnA at *
  go_enter Try.func28, Try.ntmps28
  go_wp2_with fail
  rw [HW.out]
  refine Calls.mono HC.out ?_
  rintro e Y ⟨c', rfl, hcY, hY⟩
  obtain ⟨pc, rfl, -⟩ := id hcY
  have rY : Y.heap[W.heap.size + 1]? = some (.cells zC 50 (0, 0)) := (hY.block _ (Array.getElem?_eq_some_iff.1 HR.out.2).1).trans HR.out.2
  have ec : cnA pc (d.take n).length (min s n) = cnA pc n t0 := by rw [HN.out.1, HN.out.2]
  rw [ec] at hcY ⊢
  have st := st_C Y (W.heap.size + 1) zC (cnA pc n t0) rfl rfl (by simp [cnA, Value.oneCell']) rY
  have bY : Below W.heap.size W Y := HR.out.1.trans (hY.mono HR.out.1.size)
  have HF : Hid ((Y.setRow (W.heap.size + 1) (cnA pc n t0)).heap[W.heap.size + 1]? = some (.cells (cnA pc n t0) 50 (0, 0)) ∧ ClP Q W (d.take n, min s n) (.returned (.tuple #[.agg (cnA pc n t0), .int .i64 0])) (Y.setRow (W.heap.size + 1) (cnA pc n t0))) := by
    refine ⟨setRow_heap _ _ _ _ _ _ rY, _, rfl, ?_, below_setRow bY (by omega) _⟩
    refine (cn_off hcY (W.heap.size + 1) _ ?_).keep (fun _ _ => rfl) (fun j hj => .inl hj)
    intro j hj e
    have := hQ j hj
    omega
  unfold cnA at *
  clear hcY hY rY bY HC
  go_wp2_with fail
  refine bodyPost_ret (results_Ct rfl _ _ (W.heap.size + 1) _ rfl rfl HF.out.1) rfl ?_
  exact HF.out.2
end
end Go.Proofs.Ytdiflmckjpmngaa
