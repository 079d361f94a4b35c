/- The journal's device: Append, Sync, Cut. -/
import Derived.Test.YtfimaflglnemdaaDoorJdL
namespace Go.Proofs.YtfimaflglnemdaaDoor.Dev
open Go.RowKit
set_option maxRecDepth 20000
theorem Fr.sub {W W1 w' : World} {v : Nat} {lv : Value} (h : Fr W1 w' v lv) (hb : Below W.heap.size W W1) : Fr W w' v lv :=
  ⟨h.os.trans hb.os, h.tape.trans hb.tape, h.output.trans hb.output, Nat.le_trans hb.size h.size, fun j hj h1 h2 => (h.block j (Nat.lt_of_lt_of_le hj hb.size) h1 h2).trans (hb.block j hj)⟩
theorem DoP.sub [Inhabited HoleT] {lo v : Nat} {W W1 : World} {lv : Value} {f : Array Value} {ms : List (Array Value)} {sp : List Sp} {x' : Sp} {e : Ending} {w' : World} (h : DoP lo W1 v lv f ms sp x' e w') (hb : Below W.heap.size W W1) : DoP lo W v lv f ms sp x' e w' := by
  obtain ⟨h1, lv', m', h2, h3⟩ := h
  exact ⟨h1, lv', m', h2, h3.sub hb⟩
set_option maxRecDepth 100000 in
theorem Append0 [Inhabited HoleT] {lo v : Nat} {W : World} {lv : Value} {f : Array Value} {ms : List (Array Value)} {sp : List Sp} (h : Dv lo W v lv f ms sp) (hlo : lo ≤ W.heap.size) (x : Sp) (hx : sp[ms.length]? = some x) (hbig : ms.length < 1000000) (u : Value) (l : List Nat) (hl : Bl W u l) (hroom : x.1.1.length + l.length ≤ 67108864) : Calls Tryd.prog 29 #[.pointer (some ⟨v, 0, none⟩), .int .i64 0, u] W (DoP lo W v lv f ms sp ((x.1.1 ++ l, x.1.2), x.2)) := by
  obtain ⟨W1, hW1⟩ : ∃ W1, W.alloc (.cells #[u] 23) = W1 := ⟨_, rfl⟩
  have bW : Below W.heap.size W W1 := by rw [← hW1]; exact (Below.refl _ W).alloc (Nat.le_refl _) _
  have r1 : W1.heap[W.heap.size]? = some (.cells #[u] 23 (0, 0)) := by rw [← hW1]; exact heap_alloc_new _ _
  have C : Hid _ := do_app0 (h.below bW) (Nat.le_trans hlo bW.size) x hx hbig W.heap.size (x.1.1 ++ l, x.1.2) (fun Q c Y hY hQ hc => app_cl Q c x.1.1 x.1.2 Y hc hQ W.heap.size u l ((hl.below bW).below hY) ((hY.block _ (Array.getElem?_eq_some_iff.1 r1).1).trans r1) hroom)
  have HW : Hid (W.alloc (.cells #[u] 23) = W1 ∧ Below W.heap.size W W1) := ⟨hW1, bW⟩
  obtain ⟨oa, cap, hu, -⟩ := id hl
  subst hu
  clear hW1 bW r1 h hx hl hroom hlo hbig
  go_enter Tryd.func29, Tryd.ntmps29
  go_wp2_with fail
  rw [HW.out.1]
  refine Calls.mono C.out ?_
  rintro e w' hP
  have hP2 := hP.sub HW.out.2
  obtain ⟨rfl, hE⟩ := hP2
  have HE : Hid _ := hE
  clear hE hP C
  go_wp2_with fail
  go_ret
  exact ⟨rfl, HE.out⟩
set_option maxRecDepth 100000 in
theorem Sync0 [Inhabited HoleT] {lo v : Nat} {W : World} {lv : Value} {f : Array Value} {ms : List (Array Value)} {sp : List Sp} (h : Dv lo W v lv f ms sp) (hlo : lo ≤ W.heap.size) (x : Sp) (hx : sp[ms.length]? = some x) (hbig : ms.length < 1000000) : Calls Tryd.prog 30 #[.pointer (some ⟨v, 0, none⟩), .int .i64 0] W (DoP lo W v lv f ms sp ((x.1.1, x.1.1.length), x.2)) := by
  have C : Hid _ := do_sync0 h hlo x hx hbig 0 (x.1.1, x.1.1.length) (fun Q c Y hY hQ hc => sync_cl Q c x.1.1 x.1.2 Y hc hQ)
  clear h hx hlo hbig
  go_enter Tryd.func30, Tryd.ntmps30
  go_wp2_with fail
  refine Calls.mono C.out ?_
  rintro e w' ⟨rfl, hE⟩
  have HE : Hid _ := hE
  clear hE C
  go_wp2_with fail
  go_ret
  exact ⟨rfl, HE.out⟩
set_option maxRecDepth 100000 in
theorem Cut0 [Inhabited HoleT] {lo v : Nat} {W : World} {lv : Value} {f : Array Value} {ms : List (Array Value)} {sp : List Sp} (h : Dv lo W v lv f ms sp) (hlo : lo ≤ W.heap.size) (x : Sp) (hx : sp[ms.length]? = some x) (hbig : ms.length < 1000000) (n : Nat) (hn : n ≤ x.1.1.length) : Calls Tryd.prog 31 #[.pointer (some ⟨v, 0, none⟩), .int .i64 0, .int .i64 (n : Int)] W (DoP lo W v lv f ms sp ((x.1.1.take n, min x.1.2 n), x.2)) := by
  obtain ⟨W1, hW1⟩ : ∃ W1, W.alloc (.cells #[.int .i64 (n : Int)] 3) = W1 := ⟨_, rfl⟩
  have bW : Below W.heap.size W W1 := by rw [← hW1]; exact (Below.refl _ W).alloc (Nat.le_refl _) _
  have r1 : W1.heap[W.heap.size]? = some (.cells #[.int .i64 (n : Int)] 3 (0, 0)) := by rw [← hW1]; exact heap_alloc_new _ _
  have C : Hid _ := do_cut0 (h.below bW) (Nat.le_trans hlo bW.size) x hx hbig W.heap.size (x.1.1.take n, min x.1.2 n) (fun Q c Y hY hQ hc => cut_cl Q c x.1.1 x.1.2 Y hc hQ W.heap.size n ((hY.block _ (Array.getElem?_eq_some_iff.1 r1).1).trans r1) hn)
  have HW : Hid (W.alloc (.cells #[.int .i64 (n : Int)] 3) = W1 ∧ Below W.heap.size W W1) := ⟨hW1, bW⟩
  clear hW1 bW r1 h hx hlo hbig hn
  go_enter Tryd.func31, Tryd.ntmps31
  go_wp2_with fail
  rw [HW.out.1]
  refine Calls.mono C.out ?_
  rintro e w' hP
  have hP2 := hP.sub HW.out.2
  obtain ⟨rfl, hE⟩ := hP2
  have HE : Hid _ := hE
  clear hE hP C
  go_wp2_with fail
  go_ret
  exact ⟨rfl, HE.out⟩
set_option maxRecDepth 100000 in
theorem Append1 [Inhabited HoleT] {lo v : Nat} {W : World} {lv : Value} {f : Array Value} {ms : List (Array Value)} {sp : List Sp} (h : Dv lo W v lv f ms sp) (hlo : lo ≤ W.heap.size) (x : Sp) (hx : sp[ms.length]? = some x) (hbig : ms.length < 1000000) (u : Value) (l : List Nat) (hl : Bl W u l) (hroom : x.2.1.length + l.length ≤ 67108864) : Calls Tryd.prog 29 #[.pointer (some ⟨v, 0, none⟩), .int .i64 1, u] W (DoP lo W v lv f ms sp (x.1, (x.2.1 ++ l, x.2.2))) := by
  obtain ⟨W1, hW1⟩ : ∃ W1, W.alloc (.cells #[u] 23) = W1 := ⟨_, rfl⟩
  have bW : Below W.heap.size W W1 := by rw [← hW1]; exact (Below.refl _ W).alloc (Nat.le_refl _) _
  have r1 : W1.heap[W.heap.size]? = some (.cells #[u] 23 (0, 0)) := by rw [← hW1]; exact heap_alloc_new _ _
  have C : Hid _ := do_app1 (h.below bW) (Nat.le_trans hlo bW.size) x hx hbig W.heap.size (x.2.1 ++ l, x.2.2) (fun Q c Y hY hQ hc => app_cl Q c x.2.1 x.2.2 Y hc hQ W.heap.size u l ((hl.below bW).below hY) ((hY.block _ (Array.getElem?_eq_some_iff.1 r1).1).trans r1) hroom)
  have HW : Hid (W.alloc (.cells #[u] 23) = W1 ∧ Below W.heap.size W W1) := ⟨hW1, bW⟩
  obtain ⟨oa, cap, hu, -⟩ := id hl
  subst hu
  clear hW1 bW r1 h hx hl hroom hlo hbig
  go_enter Tryd.func29, Tryd.ntmps29
  go_wp2_with fail
  rw [HW.out.1]
  refine Calls.mono C.out ?_
  rintro e w' hP
  have hP2 := hP.sub HW.out.2
  obtain ⟨rfl, hE⟩ := hP2
  have HE : Hid _ := hE
  clear hE hP C
  go_wp2_with fail
  go_ret
  exact ⟨rfl, HE.out⟩
set_option maxRecDepth 100000 in
theorem Sync1 [Inhabited HoleT] {lo v : Nat} {W : World} {lv : Value} {f : Array Value} {ms : List (Array Value)} {sp : List Sp} (h : Dv lo W v lv f ms sp) (hlo : lo ≤ W.heap.size) (x : Sp) (hx : sp[ms.length]? = some x) (hbig : ms.length < 1000000) : Calls Tryd.prog 30 #[.pointer (some ⟨v, 0, none⟩), .int .i64 1] W (DoP lo W v lv f ms sp (x.1, (x.2.1, x.2.1.length))) := by
  have C : Hid _ := do_sync1 h hlo x hx hbig 0 (x.2.1, x.2.1.length) (fun Q c Y hY hQ hc => sync_cl Q c x.2.1 x.2.2 Y hc hQ)
  clear h hx hlo hbig
  go_enter Tryd.func30, Tryd.ntmps30
  go_wp2_with fail
  refine Calls.mono C.out ?_
  rintro e w' ⟨rfl, hE⟩
  have HE : Hid _ := hE
  clear hE C
  go_wp2_with fail
  go_ret
  exact ⟨rfl, HE.out⟩
set_option maxRecDepth 100000 in
theorem Cut1 [Inhabited HoleT] {lo v : Nat} {W : World} {lv : Value} {f : Array Value} {ms : List (Array Value)} {sp : List Sp} (h : Dv lo W v lv f ms sp) (hlo : lo ≤ W.heap.size) (x : Sp) (hx : sp[ms.length]? = some x) (hbig : ms.length < 1000000) (n : Nat) (hn : n ≤ x.2.1.length) : Calls Tryd.prog 31 #[.pointer (some ⟨v, 0, none⟩), .int .i64 1, .int .i64 (n : Int)] W (DoP lo W v lv f ms sp (x.1, (x.2.1.take n, min x.2.2 n))) := by
  obtain ⟨W1, hW1⟩ : ∃ W1, W.alloc (.cells #[.int .i64 (n : Int)] 3) = W1 := ⟨_, rfl⟩
  have bW : Below W.heap.size W W1 := by rw [← hW1]; exact (Below.refl _ W).alloc (Nat.le_refl _) _
  have r1 : W1.heap[W.heap.size]? = some (.cells #[.int .i64 (n : Int)] 3 (0, 0)) := by rw [← hW1]; exact heap_alloc_new _ _
  have C : Hid _ := do_cut1 (h.below bW) (Nat.le_trans hlo bW.size) x hx hbig W.heap.size (x.2.1.take n, min x.2.2 n) (fun Q c Y hY hQ hc => cut_cl Q c x.2.1 x.2.2 Y hc hQ W.heap.size n ((hY.block _ (Array.getElem?_eq_some_iff.1 r1).1).trans r1) hn)
  have HW : Hid (W.alloc (.cells #[.int .i64 (n : Int)] 3) = W1 ∧ Below W.heap.size W W1) := ⟨hW1, bW⟩
  clear hW1 bW r1 h hx hlo hbig hn
  go_enter Tryd.func31, Tryd.ntmps31
  go_wp2_with fail
  rw [HW.out.1]
  refine Calls.mono C.out ?_
  rintro e w' hP
  have hP2 := hP.sub HW.out.2
  obtain ⟨rfl, hE⟩ := hP2
  have HE : Hid _ := hE
  clear hE hP C
  go_wp2_with fail
  go_ret
  exact ⟨rfl, HE.out⟩
end Go.Proofs.YtfimaflglnemdaaDoor.Dev
