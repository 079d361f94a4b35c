/- ModuloTexts: sumOf. -/
import Derived.Test.YtmfmmcfdcjhecaaDoorMt1
import Derived.Test.YtmfmmcfdcjhecaaDoorShTb
namespace Go.Proofs.YtmfmmcfdcjhecaaDoor
open Go.RowKit Go.Proofs.YtmfmmcfdcjhecaaDoor.Sha
/-- The bytes of some texts, one behind the other. -/
def bls (ts : List ByteArray) : List Nat := (ts.map bl).flatten
theorem bls_succ (ts : List ByteArray) (k : Nat) (s : ByteArray) (h : ts[k]? = some s) : bls (ts.take (k + 1)) = bls (ts.take k) ++ bl s := by
  have hk := (List.getElem?_eq_some_iff.1 h).1
  have he := (List.getElem?_eq_some_iff.1 h).2
  unfold bls
  rw [List.take_succ_eq_append_getElem hk, List.map_append, List.flatten_append, he]
  simp
theorem byl_bts {v : Value} {d : List Nat} {w : World} (h : YtmfmmcfdcjhecaaDoor.Byl v d w) (g : Nat) (hg : ∀ k, v.ownBlock = some k → k ≠ g) : Bts g v d w := by
  rcases h with h | ⟨b, off, cap, rfl, h2, h3, h5, h6⟩
  · exact .inl h
  · exact .inr ⟨b, off, cap, rfl, h2, h3, hg b rfl, h5, h6⟩
theorem touch_below {g : Nat} {w w' : World} (h : Below w.heap.size w w') : Sha.Touch g w w' := ⟨h.os, h.tape, h.output, h.size, fun j hj _ => h.block j hj⟩
attribute [local go_sem ↓] toCv
set_option maxRecDepth 100000 in
set_option maxHeartbeats 1000000 in
theorem sumOf_any (ts : List ByteArray) (hn : ts.length ≤ 16) (hts : ∀ s ∈ ts, s.size ≤ 1099511627776) (hbl : (bls ts).length ≤ 1152921504606846976) (p : Nat) (w : World) (hpl : p < w.heap.size) (ht : Tb w) (hP : ∀ (j : Nat) s, ts[j]? = some s → w.cell? ⟨p, j, none⟩ = some (.string s)) :
    Calls Tryd.prog 13 #[.slice (some ⟨p, 0, none⟩) ts.length ts.length] w fun e w' => e = .returned (.agg (bs (sha (bls ts)))) ∧ Below w.heap.size w w' := by
  have C0 : Hid _ := new_any (w.alloc (.cells (bs z32) 23))
  have HT : Hid (Tb w) := ht
  have HP : Hid _ := hP
  have HTS : Hid _ := hts
  have HBL : Hid ((bls ts).length ≤ 1152921504606846976) := hbl
  have hsz := ht.sz
  clear ht hP hts hbl
  go_enter Tryd.func13, Tryd.ntmps13
  go_wp2_with fail
  refine Calls.mono C0.out ?_
  rintro e W0 ⟨rfl, hW0⟩
  clear C0
  rw [heap_size_alloc]
  have rowR : Hid (W0.heap[w.heap.size]? = some (.cells (bs z32) 23 (0, 0))) := by rw [hW0]; exact heap_alloc2_old _ _ _
  have took0 : Took roundN startN [] (w.heap.size + 1) W0 := took_zero _ _ _ _ (by rw [hW0]; exact heap_alloc2_new _ _ _)
  have bel0 : Below w.heap.size w W0 := by rw [hW0]; exact ((Below.refl _ w).alloc (Nat.le_refl _) _).alloc (by simp) _
  have HS0 : Hid (W0.heap.size = w.heap.size + 2) := by rw [hW0]; show _ = _; simp
  have B0 : Hid (Below w.heap.size w W0) := bel0
  clear hW0 bel0
  go_wp2_with fail
  go_loopw [9] (fun iv wr => ∃ k : Nat, iv = .int .i64 (k : Int) ∧ k ≤ ts.length ∧ Hid (Took roundN startN (bls (ts.take k)) (w.heap.size + 1) wr) ∧ Hid (Sha.Touch (w.heap.size + 1) W0 wr)) (fun iv _ => ts.length - (intOf iv).toNat)
  case atStart => exact ⟨0, rfl, by omega, took0, Sha.Touch.refl _ _⟩
  case round =>
    clear took0
    obtain ⟨k, rfl, hk, HK, HTC⟩ := hrel
    have hs0 := HS0.out
    have hold : ∀ j, j < w.heap.size → wr.heap[j]? = w.heap[j]? := fun j hj => (HTC.out.block j (by omega) (by omega)).trans (B0.out.block j hj)
    have hTb : Tb wr := HT.out.keep (by have := HTC.out.size; omega) (fun j hj => hold j (by omega))
    have hzr := HTC.out.size
    by_cases hlt : k < ts.length
    · have hk0 : (0 : Int) ≤ (k : Int) := by omega
      have hk1 : (k : Int) < (ts.length : Int) := by omega
      obtain ⟨s, hs⟩ : ∃ s, ts[k]? = some s := ⟨_, List.getElem?_eq_getElem hlt⟩
      have cs : wr.cell? ⟨p, k, none⟩ = some (.string s) := (World.cell?_of_block (w := w) (hold p hpl)).trans (HP.out k s hs)
      obtain ⟨c, W2, rc, hby, hb2⟩ := run_cvb wr s (HTS.out s (List.mem_of_getElem? hs))
      have hg : w.heap.size + 1 < wr.heap.size := by omega
      have hbt : Bts (w.heap.size + 1) (.slice (some ⟨wr.heap.size, 0, none⟩) s.size c) (bl s) W2 := byl_bts hby _ (fun j hj => by
        have : wr.heap.size = j := by cases hj; rfl
        omega)
      have hTb2 : Tb W2 := hTb.below hb2 hTb.sz
      have hlen : (bls (ts.take k)).length + (bl s).length ≤ 1152921504606846976 := by
        have h1 := bls_succ ts k s hs
        have h2 : (bls (ts.take (k + 1))).length ≤ (bls ts).length := by
          unfold bls
          rw [List.map_take]
          exact sum_flat_le _ _
        rw [h1, List.length_append] at h2
        have := HBL.out
        omega
      have CW : Hid _ := write_took roundN startN mixOK rfl startN_wrd (w.heap.size + 1) (bls (ts.take k)) (bl s) (bl_byt s) hlen _ W2 hbt (by omega) hTb2.sz hTb2.s hTb2.k (HK.out.keep (hb2.block _ hg))
      have HB2 : Hid (Below wr.heap.size wr W2) := hb2
      have HSU : Hid (bls (ts.take (k + 1)) = bls (ts.take k) ++ bl s) := bls_succ ts k s hs
      clear hby hbt hTb hTb2 hlen hold hs hb2
      go_wp2_with fail
      refine Calls.mono CW.out ?_
      rintro e W3 ⟨rfl, ht3, tc3⟩
      clear CW
      have HK3 : Hid (Took roundN startN (bls (ts.take (k + 1))) (w.heap.size + 1) W3) := by show Took _ _ _ _ _; rw [HSU.out]; exact ht3
      have HT3 : Hid (Sha.Touch (w.heap.size + 1) W0 W3) := (HTC.out.trans (touch_below HB2.out)).trans tc3
      clear ht3 tc3 HK HTC HB2
      go_wp2
      exact ⟨⟨k + 1, by rfl, by omega, HK3, HT3⟩, by simp only [intOf]; omega⟩
    · have hk1 : ¬ ((k : Int) < (ts.length : Int)) := by omega
      have HK2 : Hid (Took roundN startN (bls ts) (w.heap.size + 1) wr) := by have := HK.out; rw [List.take_of_length_le (by omega)] at this; exact this
      obtain ⟨S, hS⟩ : ∃ S, S = sha (bls ts) := ⟨_, rfl⟩
      have CS : Hid (Calls Tryd.prog 21 #[.pointer (some ⟨w.heap.size + 1, 0, none⟩)] wr fun e w' => e = .returned (.agg (bs S)) ∧ Below wr.heap.size wr w') := by
        rw [hS]
        exact sum_took roundN startN mixOK rfl startN_wrd (w.heap.size + 1) (bls ts) HBL.out wr hTb.sz hTb.s hTb.k HK2.out
      have sl : S.length = 32 := by rw [hS]; exact sha_len (bls ts)
      have HSS : Hid (S = sha (bls ts)) := hS
      clear hS
      have rowW : Hid (wr.heap[w.heap.size]? = some (.cells (bs z32) 23 (0, 0))) := (HTC.out.block _ (by omega) (by omega)).trans rowR.out
      have HBW : Hid (Below w.heap.size w wr) := B0.out.trans (HTC.out.below (by omega) (by omega))
      have hgw : w.heap.size < wr.heap.size := by omega
      clear HK hold hTb
      go_wp2_with fail
      refine Calls.mono CS.out ?_
      rintro e W3 ⟨rfl, b3⟩
      clear CS
      have row3 : W3.heap[w.heap.size]? = some (.cells (bs z32) 23 (0, 0)) := (b3.block _ hgw).trans rowW.out
      have HB3 : Hid (Below w.heap.size w W3) := HBW.out.trans (b3.mono HBW.out.size)
      go_wp2_with (refine wpList_store_row rfl 23 _ _ rfl _ _ rfl rfl 23 _ (by exact row3) (by rw [size23, bs_size, sl]) (by rw [bs_size, bs_size, sl]; rfl) (bs_one _) ?_)
      have hres : (W3.setRow w.heap.size (bs S)).heap[w.heap.size]? = some (.cells (bs S) 23 (0, 0)) := setRow_heap _ _ _ _ _ _ row3
      rw [← HSS.out]
      refine bodyPost_ret (v := .agg (bs S)) (results_cell_row rfl _ _ w.heap.size 23 _ (0, 0) _ rfl hres Tryd.underlying23 rfl (by rw [size23, bs_size, sl])) rfl ⟨rfl, ?_⟩
      exact below_setRow HB3.out (Nat.le_refl _) _
end Go.Proofs.YtmfmmcfdcjhecaaDoor
