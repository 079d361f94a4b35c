/- ModuloTexts: the document's Scratch and Stand. -/
import Derived.Test.YtmfmmcfdcjhecaaDoorMt3
namespace Go.Proofs.YtmfmmcfdcjhecaaDoor
open Go.RowKit Go.Proofs.YtmfmmcfdcjhecaaDoor.Sha
attribute [local go_sem ↓] toCv toLd
set_option maxRecDepth 100000 in
set_option maxHeartbeats 1000000 in
theorem stdR_any (r o : ByteArray) (hr : r.size ≤ 1099511627776) (ho : o.size ≤ 1099511627776) (w : World) (htr : Tr w) (hsz : 5 < w.heap.size) :
    Calls Tryd.prog 9 #[.string r, .string o] w fun e w' => e = .returned (.string (sls ++ str (b32L (sha (bl (std ++ r ++ col ++ o)))))) ∧ Below w.heap.size w w' := by
  obtain ⟨X, hX⟩ : ∃ X, X = std ++ r ++ col ++ o := ⟨_, rfl⟩
  have hXs : X.size ≤ 3298534883328 := by
    rw [hX, size_app, size_app, size_app]
    have h1 : std.size = 6 := rfl
    have h2 : col.size = 1 := rfl
    omega
  have HX : Hid (X = std ++ r ++ col ++ o) := hX
  rw [← hX]
  clear hX
  obtain ⟨c, W1, rc, hby1, b1⟩ := run_cvw w X hXs
  obtain ⟨S, hS⟩ : ∃ S, S = sha (bl X) := ⟨_, rfl⟩
  have C1 : Hid (Calls Tryd.prog 14 #[.slice (some ⟨w.heap.size, 0, none⟩) X.size c] W1 fun e w' => e = .returned (.agg (bs S)) ∧ Below W1.heap.size W1 w') := by
    rw [hS]
    exact ofR_tb (bl X) _ (by rw [bl_len]; omega) (bl_byt X) W1 (htr.below b1 hsz) hby1
  have hSl : S.length = 32 := by rw [hS]; exact sha_len _
  have HSb : Hid (Byt S) := by rw [hS]; exact sha_byt _
  have HB1 : Hid (Below w.heap.size w W1) := b1
  rw [← hS]
  obtain ⟨B, hB⟩ : ∃ B, B = str (b32L S) := ⟨_, rfl⟩
  rw [← hB]
  have HBB : Hid (B = str (b32L S)) := hB
  have hBs : B.size ≤ 64 := by rw [hB, str_size, b32L_len]; unfold n32; omega
  have rc2 : (cvR (.string (std ++ r ++ col ++ o))).run Tryd.prog w = .ok (.slice (some ⟨w.heap.size, 0, none⟩) X.size c) W1 := by rw [← HX.out]; exact rc
  have z1 : (std ++ r).size ≤ 2199023255552 := by rw [size_app]; have h1 : std.size = 6 := rfl; omega
  have z2 : (std ++ r ++ col).size ≤ 2199023255552 := by rw [size_app, size_app]; have h1 : std.size = 6 := rfl; have h2 : col.size = 1 := rfl; omega
  unfold std col at rc2 z2
  unfold std at z1
  clear hS hB rc hby1 b1 htr
  go_enter Tryd.func9, Tryd.ntmps9
  go_wp2_with fail
  refine Calls.mono C1.out ?_
  rintro e W2 ⟨rfl, b2⟩
  clear C1 rc2
  have HB2 : Hid (Below w.heap.size w W2) := HB1.out.trans (b2.mono HB1.out.size)
  clear b2 HB1
  go_wp2_with (refine wpList_store_row rfl 23 _ _ rfl _ _ rfl rfl 23 _ (by exact heap_alloc_new _ _) (by rw [size23, bs_size, hSl]) (by rw [bs_size, hSl]; rfl) (bs_one _) ?_)
  generalize hW3 : (W2.alloc (Obj.cells _ 23)).setRow W2.heap.size (bs S) = W3
  obtain ⟨q1, q2, q3⟩ := row_new W2 (bs z32) S 23
  have row3 : W3.heap[W2.heap.size]? = some (.cells (bs S) 23 (0, 0)) := by rw [← hW3]; exact q1
  have b3 : Below W2.heap.size W2 W3 := by rw [← hW3]; exact q2
  have HB3 : Hid (Below w.heap.size w W3) := HB2.out.trans (b3.mono HB2.out.size)
  have hby : Byl (.slice (some ⟨W2.heap.size, 0, none⟩) 32 32) S W3 := by
    have := byl_row row3 (by unfold maxLen; omega)
    rw [hSl] at this
    exact this
  have C2 : Hid (Calls Tryd.prog 17 #[.slice (some ⟨W2.heap.size, 0, none⟩) 32 32] W3 fun e w' => e = .returned (.string B) ∧ Below W3.heap.size W3 w') := by
    rw [HBB.out]
    exact b32R_any S HSb.out (by omega) _ _ hby
  clear hby b3 row3 hW3 q1 q2 q3 HB2
  go_wp2_with fail
  refine Calls.mono C2.out ?_
  rintro e W4 ⟨rfl, b4⟩
  clear C2
  have HB4 : Hid (Below w.heap.size w W4) := HB3.out.trans (b4.mono HB3.out.size)
  clear b4 HB3
  go_wp2
  go_ret
  exact ⟨rfl, HB4.out⟩
set_option maxRecDepth 100000 in
set_option maxHeartbeats 1000000 in
theorem scrR_any (s : List Nat) (hl : s.length = 32) (hb : Byt s) (o : ByteArray) (ho : o.size ≤ 1099511627776) (w : World) (htr : Tr w) (hsz : 5 < w.heap.size) :
    Calls Tryd.prog 7 #[.agg (bs s), .string o] w fun e w' => e = .returned (.agg (bs (Big.fold (sha (bl (scr ++ str (hexL s) ++ col ++ o)))))) ∧ Below w.heap.size w w' := by
  have hH : (str (hexL s)).size = 64 := by rw [str_size, hexL_len]; omega
  obtain ⟨H, hHH⟩ : ∃ H, H = str (hexL s) := ⟨_, rfl⟩
  rw [← hHH] at hH ⊢
  have HH : Hid (H = str (hexL s)) := hHH
  obtain ⟨X, hX⟩ : ∃ X, X = scr ++ H ++ col ++ o := ⟨_, rfl⟩
  have hXs : X.size ≤ 3298534883328 := by
    rw [hX, size_app, size_app, size_app]
    have h1 : scr.size = 8 := rfl
    have h2 : col.size = 1 := rfl
    omega
  have HX : Hid (X = scr ++ H ++ col ++ o) := hX
  rw [← hX]
  obtain ⟨S, hS⟩ : ∃ S, S = sha (bl X) := ⟨_, rfl⟩
  rw [← hS]
  obtain ⟨F, hF⟩ : ∃ F, F = Big.fold S := ⟨_, rfl⟩
  rw [← hF]
  have HS : Hid (S = sha (bl X) ∧ F = Big.fold S) := ⟨hS, hF⟩
  have hSl : S.length = 32 := by rw [hS]; exact sha_len _
  have HSb : Hid (Byt S) := by rw [hS]; exact sha_byt _
  have hFl : F.length = 20 := by rw [hF]; exact fold_len S
  have HB : Hid (Byt s) := hb
  have HTR : Hid (Tr w) := htr
  have z1 : (scr ++ H).size ≤ 2199023255552 := by rw [size_app]; have h1 : scr.size = 8 := rfl; omega
  have z2 : (scr ++ H ++ col).size ≤ 2199023255552 := by rw [size_app, size_app]; have h1 : scr.size = 8 := rfl; have h2 : col.size = 1 := rfl; omega
  unfold scr col at z2
  unfold scr at z1
  clear hS hF hb htr hHH hX
  go_enter Tryd.func7, Tryd.ntmps7
  go_wp2_with fail
  generalize hW0 : (w.alloc (Obj.cells (bs s) 23)).alloc (Obj.cells _ 26) = W0
  have bel : Below w.heap.size w W0 := by rw [← hW0]; exact ((Below.refl _ w).alloc (Nat.le_refl _) _).alloc (by simp) _
  have ld : (ldR (.pointer (some ⟨w.heap.size, 0, none⟩))).run Tryd.prog W0 = .ok (.agg (bs s)) W0 := run_ld23 W0 w.heap.size s (by rw [← hW0]; exact heap_alloc2_old _ _ _) hl
  have row0 : Hid (W0.heap[w.heap.size + 1]? = some (.cells (bs Big.z20) 26 (0, 0))) := by rw [← hW0]; exact heap_alloc2_new _ _ _
  have C : Hid (Calls Tryd.prog 11 #[.agg (bs s)] W0 fun e w' => e = .returned (.string H) ∧ Below W0.heap.size W0 w') := by
    rw [HH.out]
    exact hex7_any s hl HB.out W0
  have HB0 : Hid (Below w.heap.size w W0) := bel
  have HS0 : Hid (W0.heap.size = w.heap.size + 2) := by rw [← hW0]; show _ = _; simp
  clear hW0 bel
  rw [ld]
  go_wp2_with fail
  refine Calls.mono C.out ?_
  rintro e W1 ⟨rfl, b1⟩
  clear C ld
  have HB1 : Hid (Below w.heap.size w W1) := HB0.out.trans (b1.mono HB0.out.size)
  have row1 : Hid (W1.heap[w.heap.size + 1]? = some (.cells (bs Big.z20) 26 (0, 0)) ∧ w.heap.size + 1 < W1.heap.size) := ⟨(b1.block _ (by have := HS0.out; omega)).trans row0.out, by have := HS0.out; have := b1.size; omega⟩
  clear b1 row0 HB0 HS0
  obtain ⟨c, W2, rc, hby2, b2⟩ := run_cvw W1 X hXs
  have C1 : Hid (Calls Tryd.prog 14 #[.slice (some ⟨W1.heap.size, 0, none⟩) X.size c] W2 fun e w' => e = .returned (.agg (bs S)) ∧ Below W2.heap.size W2 w') := by
    rw [HS.out.1]
    exact ofR_tb (bl X) _ (by rw [bl_len]; omega) (bl_byt X) W2 ((HTR.out.below HB1.out hsz).below b2 (by have := HB1.out.size; omega)) hby2
  have rc2 : (cvR (.string (scr ++ H ++ col ++ o))).run Tryd.prog W1 = .ok (.slice (some ⟨W1.heap.size, 0, none⟩) X.size c) W2 := by rw [← HX.out]; exact rc
  unfold scr col at rc2
  have HB2 : Hid (Below w.heap.size w W2) := HB1.out.trans (b2.mono HB1.out.size)
  have row2 : Hid (W2.heap[w.heap.size + 1]? = some (.cells (bs Big.z20) 26 (0, 0)) ∧ w.heap.size + 1 < W2.heap.size) := ⟨(b2.block _ row1.out.2).trans row1.out.1, by have := row1.out.2; have := b2.size; omega⟩
  clear rc hby2 b2 row1 HB1
  go_wp2_with fail
  refine Calls.mono C1.out ?_
  rintro e W3 ⟨rfl, b3⟩
  clear C1 rc2
  have HB3 : Hid (Below w.heap.size w W3) := HB2.out.trans (b3.mono HB2.out.size)
  have row3 : Hid (W3.heap[w.heap.size + 1]? = some (.cells (bs Big.z20) 26 (0, 0)) ∧ w.heap.size + 1 < W3.heap.size) := ⟨(b3.block _ row2.out.2).trans row2.out.1, by have := row2.out.2; have := b3.size; omega⟩
  clear b3 row2 HB2
  go_wp2_with (refine wpList_store_row rfl 23 _ _ rfl _ _ rfl rfl 23 _ (by exact heap_alloc_new _ _) (by rw [size23, bs_size, hSl]) (by rw [bs_size, hSl]; rfl) (bs_one _) ?_)
  generalize hW4 : (W3.alloc (Obj.cells _ 23)).setRow W3.heap.size (bs S) = W4
  obtain ⟨q1, q2, q3⟩ := row_new W3 (bs z32) S 23
  have ld4 : (ldR (.pointer (some ⟨W3.heap.size, 0, none⟩))).run Tryd.prog W4 = .ok (.agg (bs S)) W4 := run_ld23 W4 W3.heap.size S (by rw [← hW4]; exact q1) hSl
  have b4 : Below W3.heap.size W3 W4 := by rw [← hW4]; exact q2
  have HB4 : Hid (Below w.heap.size w W4) := HB3.out.trans (b4.mono HB3.out.size)
  have row4 : Hid (W4.heap[w.heap.size + 1]? = some (.cells (bs Big.z20) 26 (0, 0)) ∧ w.heap.size + 1 < W4.heap.size) := ⟨(b4.block _ row3.out.2).trans row3.out.1, by have := row3.out.2; have := b4.size; omega⟩
  have C2 : Hid (Calls Tryd.prog 15 #[.agg (bs S)] W4 fun e w' => e = .returned (.agg (bs F)) ∧ Below W4.heap.size W4 w') := by
    rw [HS.out.2]
    exact Big.foldR_any S hSl HSb.out W4
  clear hW4 q1 q2 q3 b4 row3 HB3
  rw [ld4]
  go_wp2_with fail
  refine Calls.mono C2.out ?_
  rintro e W5 ⟨rfl, b5⟩
  clear C2 ld4
  have row5 : W5.heap[w.heap.size + 1]? = some (.cells (bs Big.z20) 26 (0, 0)) := (b5.block _ row4.out.2).trans row4.out.1
  have HB5 : Hid (Below w.heap.size w W5) := HB4.out.trans (b5.mono HB4.out.size)
  clear b5 row4 HB4
  go_wp2_with (refine wpList_store_row rfl 26 _ _ rfl _ _ rfl rfl 26 _ (by exact row5) (by rw [size26, bs_size, hFl]) (by rw [bs_size, bs_size, hFl]; rfl) (bs_one _) ?_)
  have hres : (W5.setRow (w.heap.size + 1) (bs F)).heap[w.heap.size + 1]? = some (.cells (bs F) 26 (0, 0)) := setRow_heap _ _ _ _ _ _ row5
  refine bodyPost_ret (v := .agg (bs F)) (results_cell_row rfl _ _ (w.heap.size + 1) 26 _ (0, 0) _ rfl hres Tryd.underlying26 rfl (by rw [size26, bs_size, hFl])) rfl ⟨rfl, ?_⟩
  exact below_setRow HB5.out (by omega) _
end Go.Proofs.YtmfmmcfdcjhecaaDoor
