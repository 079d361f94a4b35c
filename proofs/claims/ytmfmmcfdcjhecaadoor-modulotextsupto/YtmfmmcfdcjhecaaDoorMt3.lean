/- ModuloTexts: Scratch and Stand, both. -/
import Derived.Test.YtmfmmcfdcjhecaaDoorMt2
namespace Go.Proofs.YtmfmmcfdcjhecaaDoor
open Go.RowKit Go.Proofs.YtmfmmcfdcjhecaaDoor.Sha
def scr : ByteArray := ⟨#[115, 99, 114, 97, 116, 99, 104, 58]⟩
def std : ByteArray := ⟨#[115, 116, 97, 110, 100, 58]⟩
def col : ByteArray := ⟨#[58]⟩
def sls : ByteArray := ⟨#[47]⟩
theorem size26 : (Tryd.prog.info? 26).map (·.size) = some 20 := by kernel_rfl
theorem fold_len (s : List Nat) : (Big.fold s).length = 20 := Big.foldk_len s 32
theorem bls4 (a b c d : ByteArray) : bls [a, b, c, d] = bl (a ++ b ++ c ++ d) := by
  rw [bl_app, bl_app, bl_app]
  simp [bls]
theorem size_app (a b : ByteArray) : (a ++ b).size = a.size + b.size := ByteArray.size_append
theorem sum4 (a b c d : ByteArray) (ha : a.size ≤ 1099511627776) (hb : b.size ≤ 1099511627776) (hc : c.size ≤ 1099511627776) (hd : d.size ≤ 1099511627776) (W : World) (ht : Tb W) :
    Calls Tryd.prog 13 #[.slice (some ⟨W.heap.size, 0, none⟩) 4 4] (W.alloc (.cells #[.string a, .string b, .string c, .string d] 9)) fun e w' => e = .returned (.agg (bs (sha (bl (a ++ b ++ c ++ d))))) ∧ Below W.heap.size W w' := by
  have bel : Below W.heap.size W (W.alloc (.cells #[.string a, .string b, .string c, .string d] 9)) := (Below.refl _ W).alloc (Nat.le_refl _) _
  have hlen : (bls [a, b, c, d]).length ≤ 1152921504606846976 := by
    rw [bls4, bl_len, size_app, size_app, size_app]
    omega
  have := sumOf_any [a, b, c, d] (by simp) (fun s hs => by simp at hs; rcases hs with rfl | rfl | rfl | rfl <;> assumption) hlen W.heap.size (W.alloc (.cells #[.string a, .string b, .string c, .string d] 9)) (by simp) (ht.below bel ht.sz) (fun j s hj => by
    rw [cell_of_row _ _ _ _ _ _ (heap_alloc_new W _)]
    match j, hj with
    | 0, hj => simp at hj; rw [← hj]; rfl
    | 1, hj => simp at hj; rw [← hj]; rfl
    | 2, hj => simp at hj; rw [← hj]; rfl
    | 3, hj => simp at hj; rw [← hj]; rfl
    | n + 4, hj => simp at hj)
  rw [bls4] at this
  exact this.mono fun e w' ⟨he, hb'⟩ => ⟨he, bel.trans (hb'.mono (by simp))⟩
set_option maxRecDepth 100000 in
set_option maxHeartbeats 1000000 in
theorem scrC_any (s : List Nat) (hl : s.length = 32) (hb : Byt s) (o : ByteArray) (ho : o.size ≤ 1099511627776) (w : World) (ht : Tx w) (htb : Tb w) :
    Calls Tryd.prog 6 #[.agg (bs s), .string o] w fun e w' => e = .returned (.agg (bs (Big.fold (sha (bl (scr ++ str (hexL s) ++ col ++ o)))))) ∧ Below w.heap.size w w' := by
  have hH : (str (hexL s)).size = 64 := by rw [str_size, hexL_len]; omega
  have HT : Hid (Tx w ∧ Tb w) := ⟨ht, htb⟩
  have HB : Hid (Byt s) := hb
  obtain ⟨H, hHH⟩ : ∃ H, H = str (hexL s) := ⟨_, rfl⟩
  have HH : Hid (H = str (hexL s)) := hHH
  rw [← hHH] at hH ⊢
  obtain ⟨S, hS⟩ : ∃ S, S = sha (bl (scr ++ H ++ col ++ o)) := ⟨_, rfl⟩
  rw [← hS]
  obtain ⟨F, hF⟩ : ∃ F, F = Big.fold S := ⟨_, rfl⟩
  rw [← hF]
  have HS : Hid (S = sha (bl (scr ++ H ++ col ++ o)) ∧ F = Big.fold S) := ⟨hS, hF⟩
  have hSl : S.length = 32 := by rw [hS]; exact sha_len _
  have HSb : Hid (Byt S) := by rw [hS]; exact sha_byt _
  have hFl : F.length = 20 := by rw [hF]; exact fold_len S
  clear ht htb hb hHH hS hF
  go_enter Tryd.func6, Tryd.ntmps6
  go_wp2_with fail
  generalize hW0 : (w.alloc (Obj.cells (bs s) 23)).alloc (Obj.cells _ 26) = W0
  have bel : Below w.heap.size w W0 := by rw [← hW0]; exact ((Below.refl _ w).alloc (Nat.le_refl _) _).alloc (by simp) _
  have hby : Byl (.slice (some ⟨w.heap.size, 0, none⟩) 32 32) s W0 := by
    have := byl_row (w := W0) (g := w.heap.size) (l := s) (t := 23) (fr := (0, 0)) (by rw [← hW0]; exact heap_alloc2_old _ _ _) (by unfold maxLen; omega)
    rw [hl] at this
    exact this
  have row0 : Hid (W0.heap[w.heap.size + 1]? = some (.cells (bs Big.z20) 26 (0, 0))) := by rw [← hW0]; exact heap_alloc2_new _ _ _
  have C : Hid (Calls Tryd.prog 10 #[.slice (some ⟨w.heap.size, 0, none⟩) 32 32] W0 fun e w' => e = .returned (.string H) ∧ Below W0.heap.size W0 w') := by
    rw [HH.out]
    exact hexC_any s HB.out (by omega) _ _ hby (HT.out.1.below bel HT.out.1.sz)
  have HT0 : Hid (Tb W0) := HT.out.2.below bel HT.out.2.sz
  have HB0 : Hid (Below w.heap.size w W0) := bel
  have HS0 : Hid (W0.heap.size = w.heap.size + 2) := by rw [← hW0]; show _ = _; simp
  clear hW0 bel hby
  refine Calls.mono C.out ?_
  rintro e W1 ⟨rfl, b1⟩
  clear C
  have HT1 : Hid (Tb W1) := HT0.out.below b1 HT0.out.sz
  have HB1 : Hid (Below w.heap.size w W1) := HB0.out.trans (b1.mono HB0.out.size)
  have row1 : Hid (W1.heap[w.heap.size + 1]? = some (.cells (bs Big.z20) 26 (0, 0)) ∧ w.heap.size + 1 < W1.heap.size) := ⟨(b1.block _ (by have := HS0.out; omega)).trans row0.out, by have := HS0.out; have := b1.size; omega⟩
  clear b1 row0 HT0 HB0 HS0
  have C1 : Hid (Calls Tryd.prog 13 #[.slice (some ⟨W1.heap.size, 0, none⟩) 4 4] (W1.alloc (.cells #[.string scr, .string H, .string col, .string o] 9)) fun e w' => e = .returned (.agg (bs S)) ∧ Below W1.heap.size W1 w') := by
    rw [HS.out.1]
    exact sum4 scr H col o (by decide) (by omega) (by decide) ho W1 HT1.out
  go_wp2_with fail
  refine Calls.mono C1.out ?_
  rintro e W2 ⟨rfl, b2⟩
  clear C1
  have HB2 : Hid (Below w.heap.size w W2) := HB1.out.trans (b2.mono HB1.out.size)
  have row2 : Hid (W2.heap[w.heap.size + 1]? = some (.cells (bs Big.z20) 26 (0, 0)) ∧ w.heap.size + 1 < W2.heap.size) := ⟨(b2.block _ row1.out.2).trans row1.out.1, by have := row1.out.2; have := b2.size; omega⟩
  have C2 : Hid (Calls Tryd.prog 12 #[.agg (bs S)] W2 fun e w' => e = .returned (.agg (bs F)) ∧ Below W2.heap.size W2 w') := by
    rw [HS.out.2]
    exact Big.foldC_any S hSl HSb.out W2
  clear b2 row1 HB1 HT1
  go_wp2_with fail
  refine Calls.mono C2.out ?_
  rintro e W3 ⟨rfl, b3⟩
  clear C2
  have row3 : W3.heap[w.heap.size + 1]? = some (.cells (bs Big.z20) 26 (0, 0)) := (b3.block _ row2.out.2).trans row2.out.1
  have HB3 : Hid (Below w.heap.size w W3) := HB2.out.trans (b3.mono HB2.out.size)
  clear b3 row2 HB2
  go_wp2_with (refine wpList_store_row rfl 26 _ _ rfl _ _ rfl rfl 26 _ (by exact row3) (by rw [size26, bs_size, hFl]) (by rw [bs_size, bs_size, hFl]; rfl) (bs_one _) ?_)
  have hres : (W3.setRow (w.heap.size + 1) (bs F)).heap[w.heap.size + 1]? = some (.cells (bs F) 26 (0, 0)) := setRow_heap _ _ _ _ _ _ row3
  refine bodyPost_ret (v := .agg (bs F)) (results_cell_row rfl _ _ (w.heap.size + 1) 26 _ (0, 0) _ rfl hres Tryd.underlying26 rfl (by rw [size26, bs_size, hFl])) rfl ⟨rfl, ?_⟩
  exact below_setRow HB3.out (by omega) _
/-- A row alloc'd and stored. -/
theorem row_new (W : World) (z : Array Value) (S : List Nat) (t : Nat) : ((W.alloc (.cells z t)).setRow W.heap.size (bs S)).heap[W.heap.size]? = some (.cells (bs S) t (0, 0)) ∧ Below W.heap.size W ((W.alloc (.cells z t)).setRow W.heap.size (bs S)) ∧ ((W.alloc (.cells z t)).setRow W.heap.size (bs S)).heap.size = W.heap.size + 1 :=
  ⟨setRow_heap _ _ _ _ _ _ (heap_alloc_new _ _), below_setRow ((Below.refl _ W).alloc (Nat.le_refl _) _) (Nat.le_refl _) _, by simp⟩
set_option maxRecDepth 100000 in
set_option maxHeartbeats 1000000 in
theorem stdC_any (r o : ByteArray) (hr : r.size ≤ 1099511627776) (ho : o.size ≤ 1099511627776) (w : World) (ht : Tx w) (htb : Tb w) :
    Calls Tryd.prog 8 #[.string r, .string o] w fun e w' => e = .returned (.string (sls ++ str (b32L (sha (bl (std ++ r ++ col ++ o)))))) ∧ Below w.heap.size w w' := by
  obtain ⟨S, hS⟩ : ∃ S, S = sha (bl (std ++ r ++ col ++ o)) := ⟨_, rfl⟩
  have C1 : Hid (Calls Tryd.prog 13 #[.slice (some ⟨w.heap.size, 0, none⟩) 4 4] (w.alloc (.cells #[.string std, .string r, .string col, .string o] 9)) fun e w' => e = .returned (.agg (bs S)) ∧ Below w.heap.size w w') := by
    rw [hS]
    exact sum4 std r col o (by decide) hr (by decide) ho w htb
  have hSl : S.length = 32 := by rw [hS]; exact sha_len _
  have HSb : Hid (Byt S) := by rw [hS]; exact sha_byt _
  have HT : Hid (Tx w) := ht
  rw [← hS]
  obtain ⟨B, hB⟩ : ∃ B, B = str (b32L S) := ⟨_, rfl⟩
  rw [← hB]
  have HBB : Hid (B = str (b32L S)) := hB
  have hBs : B.size ≤ 64 := by rw [hB, str_size, b32L_len]; unfold n32; omega
  clear hS ht htb hB
  go_enter Tryd.func8, Tryd.ntmps8
  go_wp2_with fail
  refine Calls.mono C1.out ?_
  rintro e W2 ⟨rfl, b2⟩
  clear C1
  have HB2 : Hid (Below w.heap.size w W2) := b2
  clear b2
  go_wp2_with (refine wpList_store_row rfl 23 _ _ rfl _ _ rfl rfl 23 _ (by exact heap_alloc_new _ _) (by rw [size23, bs_size, hSl]) (by rw [bs_size, hSl]; rfl) (bs_one _) ?_)
  generalize hW3 : (W2.alloc (Obj.cells _ 23)).setRow W2.heap.size (bs S) = W3
  obtain ⟨q1, q2, q3⟩ := row_new W2 (bs z32) S 23
  have row3 : W3.heap[W2.heap.size]? = some (.cells (bs S) 23 (0, 0)) := by rw [← hW3]; exact q1
  have b3 : Below W2.heap.size W2 W3 := by rw [← hW3]; exact q2
  have HB3 : Hid (Below w.heap.size w W3) := HB2.out.trans (b3.mono HB2.out.size)
  have hby : Byl (.slice (some ⟨W2.heap.size, 0, none⟩) 32 32) S W3 := by
    have := byl_row row3 (by unfold maxLen; omega)
    rw [hSl] at this
    exact this
  have C2 : Hid (Calls Tryd.prog 16 #[.slice (some ⟨W2.heap.size, 0, none⟩) 32 32] W3 fun e w' => e = .returned (.string B) ∧ Below W3.heap.size W3 w') := by
    rw [HBB.out]
    exact b32C_any S HSb.out (by omega) _ _ hby (HT.out.below HB3.out HT.out.sz)
  clear hby b3 row3 hW3 q1 q2 q3 HB2
  go_wp2_with fail
  refine Calls.mono C2.out ?_
  rintro e W4 ⟨rfl, b4⟩
  clear C2
  have HB4 : Hid (Below w.heap.size w W4) := HB3.out.trans (b4.mono HB3.out.size)
  clear b4 HB3
  go_wp2
  go_ret
  exact ⟨rfl, HB4.out⟩
end Go.Proofs.YtmfmmcfdcjhecaaDoor
