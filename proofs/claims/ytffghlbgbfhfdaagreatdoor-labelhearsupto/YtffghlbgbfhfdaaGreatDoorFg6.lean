/- headOf. -/
import Derived.Test.YtffghlbgbfhfdaaGreatDoorFg5
namespace Go.Proofs.YtffghlbgbfhfdaaGreatDoor
open Go.RowKit Go.Shelf Go.Sort
/-- What holds while the head is written. -/
structure Hs (f : Fg) (w : World) (xs : List Value) (W : World) : Prop where
  isB : Lib.IsBuilder 80 5 (w.heap.size + 1) (w.heap.size + 1) xs W
  row : W.heap[w.heap.size]? = some (.cells (fing f) 26 (0, 0))
  tk : Tk W
  tx : Tx W
  sz : w.heap.size + 1 < W.heap.size
  bel : Below w.heap.size w W
theorem hs_new (f : Fg) (w : World) (hk : Tk w) (hx : Tx w) : Hs f w [] ((w.alloc (.cells (fing f) 26)).alloc (.cells #[.pointer none, .slice none 0 0] 80)) := by
  have bel : Below w.heap.size w ((w.alloc (.cells (fing f) 26)).alloc (.cells #[.pointer none, .slice none 0 0] 80)) := ((Below.refl _ w).alloc (Nat.le_refl _) _).alloc (by simp) _
  exact ⟨.inl ⟨Nat.le_refl _, _, heap_alloc2_new _ _ _, World.ownsRow_nil _ _ _ _, by simp [Value.ownBlock]⟩, heap_alloc2_old _ _ _, hk.below bel hk.sz, hx.below bel hx.sz, by simp, bel⟩
/-- New memory alone. -/
theorem Hs.below {f : Fg} {w : World} {xs : List Value} {W W' : World} (h : Hs f w xs W) (b : Below W.heap.size W W') : Hs f w xs W' :=
  ⟨isB_below h.isB b, (b.block _ (Array.getElem?_eq_some_iff.1 h.row).1).trans h.row, h.tk.below b h.tk.sz, h.tx.below b h.tx.sz, Nat.lt_of_lt_of_le h.sz b.size, h.bel.trans (b.mono h.bel.size)⟩
/-- A text more. -/
theorem Hs.write {f : Fg} {w : World} {xs ys : List Value} {W W' : World} (h : Hs f w xs W) (hi : Lib.IsBuilder 80 5 (w.heap.size + 1) (w.heap.size + 1) ys W') (b : Below (w.heap.size + 1) W W') (hk : 0 < w.heap.size) (hx : 4 < w.heap.size) : Hs f w ys W' :=
  ⟨hi, (b.block _ (by omega)).trans h.row, h.tk.below b (Nat.lt_succ_of_lt hk), h.tx.below b (Nat.lt_succ_of_lt hx), Nat.lt_of_lt_of_le h.sz b.size, h.bel.trans (b.mono (Nat.le_succ _))⟩
theorem dd_len : ∀ l : List Lb, (dd l).length ≤ l.length
  | [] => Nat.le_refl _
  | [_] => Nat.le_refl _
  | x :: y :: r => by
    have h := dd_len (y :: r)
    rw [dd_cc]
    split
    · rw [List.length_cons]; omega
    · rw [List.length_cons, List.length_cons]; omega
theorem dd_ok {f : Fg} (ok : Ok f) : (dd (srt f.L)).length ≤ 256 ∧ ∀ x ∈ dd (srt f.L), okN x.s = 0 ∧ x.s.size ≤ 211 ∧ Byt x.h := by
  have hm : ∀ x, x ∈ dd (srt f.L) ↔ x ∈ f.L := fun x => by rw [dd_mem]; exact List.mem_mergeSort
  refine ⟨?_, fun x hx => ?_⟩
  · have h1 : (dd (srt f.L)).length ≤ (srt f.L).length := dd_len _
    rw [srt_len] at h1
    have := ok.ln
    omega
  · have h1 := (hm x).1 hx
    exact ⟨ok.rf x h1, okN_size _ (ok.rf x h1), f.hL x h1⟩
theorem str_of (s : ByteArray) : (⟨s.data.toList.toArray⟩ : ByteArray) = s := by
  apply ByteArray.ext
  simp
attribute [local go_sem ↓] to25s to25l
set_option maxRecDepth 100000 in
set_option maxHeartbeats 3200000 in
theorem head_1 (f : Fg) (ok : Ok f) (hk1 : f.k = 1) (w : World) (hk : Tk w) (hx : Tx w) (hv0 : Ls f.v f.L w) :
    Calls Tryz.prog 16 #[.agg (fing f)] w fun e w' => e = .returned (.string (headT f)) ∧ Below w.heap.size w w' := by
  obtain ⟨W0, hW0⟩ : ∃ W0, (w.alloc (.cells (fing f) 26)).alloc (.cells #[.pointer none, .slice none 0 0] 80) = W0 := ⟨_, rfl⟩
  have S0 : Hs f w [] W0 := by rw [← hW0]; exact hs_new f w hk hx
  obtain ⟨M, hM⟩ : ∃ M, M = dd (srt f.L) := ⟨_, rfl⟩
  have DO := dd_ok ok
  rw [← hM] at DO
  have HDO : Hid _ := DO
  have HM : Hid (M = dd (srt f.L)) := hM
  have HOK : Hid (Ok f) := ok
  have HK1 : Hid (f.k = 1) := hk1
  have HBK : Hid (0 < w.heap.size ∧ 4 < w.heap.size) := ⟨hk.sz, hx.sz⟩
  have HLS : Hid (Ls f.v f.L w) := hv0
  obtain ⟨o, c, hvv, -, -⟩ := hv0.form
  have C1 : Hid _ := ws_any (w.heap.size + 1) (w.heap.size + 1) [] kwT W0 S0.isB (by simp [kwT, ByteArray.size]) (by have := S0.sz; omega)
  have f0 : (fing f)[0]? = some (.int .i64 1) := by rw [← hk1]; exact fing_head f 0 (by omega)
  have kwc := S0.tk.w1
  rw [← hW0] at kwc
  have HS0 : Hid (Hs f w [] W0) := S0
  have HW0 : Hid ((w.alloc (.cells (fing f) 26)).alloc (.cells #[.pointer none, .slice none 0 0] 80) = W0) := hW0
  have hkw : Hid (Lib.strCells (kwV f.k) = Lib.strCells kwT) := by show _ = _; rw [hk1]; rfl
  clear hW0 S0 hk hx hM DO ok hk1 hv0
  go_enter Tryz.func16, Tryz.ntmps16
  go_wp2_with fail
  rw [HW0.out]
  refine Calls.mono C1.out ?_
  rintro e W1 ⟨rfl, hi1, b1⟩
  have HS1 : Hid (Hs f w (Lib.strCells kwT) W1) := HS0.out.write hi1 b1 HBK.out.1 HBK.out.2
  clear C1 kwc f0 hi1 b1 HW0 HS0
  obtain ⟨q0, q1, q2, q3, q4, q37⟩ := fing_cells HS1.out.row
  rw [hvv] at q1
  have CS := sortC_any f.L f.hn f.v W1 (HLS.out.below HS1.out.bel)
  rw [← HM.out, hvv] at CS
  obtain ⟨m, hm⟩ : ∃ m, m = M.length := ⟨_, rfl⟩
  obtain ⟨g, hg⟩ : ∃ g, g = W1.heap.size := ⟨_, rfl⟩
  rw [← hm, ← hg] at CS
  have HCS : Hid _ := CS
  have HMM : Hid (m = M.length) := hm
  have HG : Hid (g = W1.heap.size) := hg
  clear CS hm hg q0 q2 q3 q4 q37
  go_wp2_with fail
  refine Calls.mono HCS.out ?_
  rintro e W2 ⟨rfl, hml, hlr, bS, zS, C, hC⟩
  have HS2 : Hid (Hs f w (Lib.strCells kwT) W2) := HS1.out.below (by rw [← HG.out]; exact bS)
  have HLR : Hid (Lr g 0 M W2 ∧ W2.heap[g]? = some (.cells C 51 (0, 0))) := ⟨hlr, hC⟩
  have hm256 : m ≤ 256 := by rw [HMM.out]; exact HDO.out.1
  clear HCS hml hlr bS zS hC HS1 HG q1 hvv
  go_wp2_with fail
  go_loopw [16] (fun iv wr => ∃ k : Nat, iv = .int .i64 (k : Int) ∧ k ≤ m ∧ Hid (Hs f w (Lib.strCells kwT ++ refC (M.take k)) wr) ∧ Hid (wr.heap[g]? = some (.cells C 51 (0, 0)))) (fun iv _ => m - (intOf iv).toNat)
  case atStart => exact ⟨0, rfl, by omega, by show Hs _ _ _ _; rw [List.take_zero, show refC [] = [] from rfl, List.append_nil]; exact HS2.out, HLR.out.2⟩
  case round =>
    clear HS2
    obtain ⟨k, rfl, hkm, HS, HC⟩ := hrel
    by_cases hlt : k < m
    · have hlt' : (k : Int) < (m : Int) := by omega
      have hk0 : (0 : Int) ≤ (k : Int) := by omega
      have hkM : k < M.length := by have := HMM.out; omega
      obtain ⟨x, hx⟩ : ∃ x, M[k]? = some x := ⟨_, List.getElem?_eq_getElem hkM⟩
      have hxr : wr.rangeAt g (k * 21) (enc x) := fun j u hu => by
        have := HLR.out.1 k x hx j u hu
        rw [Nat.zero_add] at this
        exact (World.cell?_of_block (w := W2) (HC.out.trans HLR.out.2.symm)).trans this
      have lx := run_ldx wr g _ x hxr
      obtain ⟨xo, xs, xb⟩ := HDO.out.2 x (List.mem_of_getElem? hx)
      obtain ⟨W3, s3, r3, b3⟩ := layL wr x.h x.s x.hl
      have HS3 : Hid (Hs f w (Lib.strCells kwT ++ refC (M.take k)) W3) := HS.out.below b3
      have HC3 : Hid (W3.heap[g]? = some (.cells C 51 (0, 0))) := (b3.block g (Array.getElem?_eq_some_iff.1 HC.out).1).trans HC.out
      have l3 := run_loadR25 W3 wr.heap.size x.h x.s r3 x.hl
      have CB : Hid _ := baseOf_any x.h xb x.hl x.s xs W3 HS3.out.tx
      have zz : ¬ (9223372036854775807 < 14 + (baseS x.h x.s).size) := by rw [baseS_size x.h x.s x.hl]; omega
      have HT : Hid (refC (M.take (k + 1)) = refC (M.take k) ++ Lib.strCells (refT x)) := by
        show _ = _
        rw [List.take_succ_eq_append_getElem hkM, refC_snoc]
        rw [List.getElem?_eq_getElem hkM] at hx
        rw [Option.some.inj hx]
      have HLN : Hid ((Lib.strCells kwT ++ refC (M.take k)).length + (refT x).size ≤ 1099511627776) := by
        show _ ≤ _
        have h1 := refC_len (M.take k) (fun y hy => (HDO.out.2 y (List.mem_of_mem_take hy)).2.1)
        rw [List.length_append, Lib.strCells_length, refT_size]
        have h2 : (M.take k).length ≤ 256 := by rw [List.length_take]; omega
        have h3 : (kwT).size ≤ 6 := by decide
        omega
      clear hx hxr HS HC r3 b3 xo xb hkM
      go_wp2_with fail
      refine Calls.mono CB.out ?_
      rintro e W4 ⟨rfl, b4⟩
      have HS4 : Hid (Hs f w (Lib.strCells kwT ++ refC (M.take k)) W4) := HS3.out.below b4
      have HC4 : W4.heap[g]? = some (.cells C 51 (0, 0)) := (b4.block g (Array.getElem?_eq_some_iff.1 HC3.out).1).trans HC3.out
      have CW : Hid (Calls Tryz.prog 36 #[.pointer (some ⟨w.heap.size + 1, 0, none⟩), .string (colS ++ baseS x.h x.s)] W4 _) := ws_far (w.heap.size + 1) (w.heap.size + 1) _ (refT x) W4 HS4.out.isB HLN.out (by have := HS4.out.sz; omega) g C HC4
      clear CB b4 HS3 HC3 HC4 l3 s3 lx HLN xs
      go_wp2_with fail
      refine Calls.mono CW.out ?_
      rintro e W5 ⟨rfl, hi5, b5, hC5⟩
      have HS5 : Hid (Hs f w (Lib.strCells kwT ++ refC (M.take (k + 1))) W5) := by
        show Hs _ _ _ _
        rw [HT.out, ← List.append_assoc]
        exact HS4.out.write hi5 b5 HBK.out.1 HBK.out.2
      have HC5 : Hid (W5.heap[g]? = some (.cells C 51 (0, 0))) := hC5
      clear CW hi5 b5 hC5 HS4 HT zz
      go_wp2
      exact ⟨⟨k + 1, by rfl, by omega, HS5, HC5⟩, by simp only [intOf]; omega⟩
    · have hlt' : ¬ ((k : Int) < (m : Int)) := by omega
      have hke : M.take k = M := List.take_of_length_le (by have := HMM.out; omega)
      rw [hke] at HS
      have HSE : Hid (Hs f w (Lib.strCells kwT ++ refC M) wr) := HS
      have HLN : Hid ((Lib.strCells kwT ++ refC M).length ≤ 100000) := by
        have h1 := refC_len M (fun y hy => (HDO.out.2 y hy).2.1)
        show _ ≤ _
        rw [List.length_append, Lib.strCells_length]
        have h2 : M.length ≤ 256 := HDO.out.1
        have h3 : (kwT).size ≤ 6 := by decide
        omega
      clear HS HC hke HLR
      have HEND : Hid (∀ ys W, Hs f w ys W → ys = Lib.strCells (headT f) → Calls Tryz.prog 40 #[.pointer (some ⟨w.heap.size + 1, 0, none⟩)] W fun e w' => e = .returned (.string (headT f)) ∧ Below w.heap.size w w') := by
        intro ys W hs hy
        have hi := hs.isB
        rw [hy, Lib.strCells_eq] at hi
        have := Any.Builder_String_any Tryz.stL stX (w.heap.size + 1) (w.heap.size + 1) (headT f).data.toList W hi (by have := hs.sz; omega)
        rw [str_of] at this
        exact this.mono fun e w' ⟨a, b⟩ => ⟨a, hs.bel.trans (b.mono (by omega))⟩
      have HHC : Hid (Lib.strCells kwT ++ refC M ++ tlC f = Lib.strCells (headT f)) := by
        show _ = _
        rw [← head_cells f, ← HM.out, hkw.out]
      obtain ⟨q0, q1, q2, q3, q4, q37⟩ := fing_cells HSE.out.row
      rw [HK1.out] at q0
      obtain ⟨sf, hsf⟩ : ∃ sf, sf = f.self := ⟨_, rfl⟩
      rw [← hsf] at q2
      have HSF : Hid (sf = f.self) := hsf
      clear hsf
      cases sf with
      | false =>
        have CE : Hid _ := HEND.out _ wr HSE.out (by rw [← HHC.out]; unfold tlC; rw [← HSF.out, if_neg (by decide)]; rw [if_neg (by rw [HK1.out]; decide), if_neg (by rw [HK1.out]; decide)]; simp)
        go_wp2_with fail
        refine Calls.mono CE.out ?_
        rintro e W9 ⟨rfl, b9⟩
        have HB9 : Hid (Below w.heap.size w W9) := b9
        clear b9 CE
        go_wp2
        go_ret
        exact ⟨rfl, HB9.out⟩
      | true =>
        exfalso
        have h1 := HOK.out.un
        rw [unV_eq, HK1.out, ← HSF.out] at h1
        simp at h1
set_option maxRecDepth 100000 in
set_option maxHeartbeats 3200000 in
theorem head_2 (f : Fg) (ok : Ok f) (hk1 : f.k = 2) (w : World) (hk : Tk w) (hx : Tx w) (hv0 : Ls f.v f.L w) :
    Calls Tryz.prog 16 #[.agg (fing f)] w fun e w' => e = .returned (.string (headT f)) ∧ Below w.heap.size w w' := by
  obtain ⟨W0, hW0⟩ : ∃ W0, (w.alloc (.cells (fing f) 26)).alloc (.cells #[.pointer none, .slice none 0 0] 80) = W0 := ⟨_, rfl⟩
  have S0 : Hs f w [] W0 := by rw [← hW0]; exact hs_new f w hk hx
  obtain ⟨M, hM⟩ : ∃ M, M = dd (srt f.L) := ⟨_, rfl⟩
  have DO := dd_ok ok
  rw [← hM] at DO
  have HDO : Hid _ := DO
  have HM : Hid (M = dd (srt f.L)) := hM
  have HOK : Hid (Ok f) := ok
  have HK1 : Hid (f.k = 2) := hk1
  have HBK : Hid (0 < w.heap.size ∧ 4 < w.heap.size) := ⟨hk.sz, hx.sz⟩
  have HLS : Hid (Ls f.v f.L w) := hv0
  obtain ⟨o, c, hvv, -, -⟩ := hv0.form
  have C1 : Hid _ := ws_any (w.heap.size + 1) (w.heap.size + 1) [] kwS W0 S0.isB (by simp [kwS, ByteArray.size]) (by have := S0.sz; omega)
  have f0 : (fing f)[0]? = some (.int .i64 2) := by rw [← hk1]; exact fing_head f 0 (by omega)
  have kwc := S0.tk.w2
  rw [← hW0] at kwc
  have HS0 : Hid (Hs f w [] W0) := S0
  have HW0 : Hid ((w.alloc (.cells (fing f) 26)).alloc (.cells #[.pointer none, .slice none 0 0] 80) = W0) := hW0
  have hkw : Hid (Lib.strCells (kwV f.k) = Lib.strCells kwS) := by show _ = _; rw [hk1]; rfl
  clear hW0 S0 hk hx hM DO ok hk1 hv0
  go_enter Tryz.func16, Tryz.ntmps16
  go_wp2_with fail
  rw [HW0.out]
  refine Calls.mono C1.out ?_
  rintro e W1 ⟨rfl, hi1, b1⟩
  have HS1 : Hid (Hs f w (Lib.strCells kwS) W1) := HS0.out.write hi1 b1 HBK.out.1 HBK.out.2
  clear C1 kwc f0 hi1 b1 HW0 HS0
  obtain ⟨q0, q1, q2, q3, q4, q37⟩ := fing_cells HS1.out.row
  rw [hvv] at q1
  have CS := sortC_any f.L f.hn f.v W1 (HLS.out.below HS1.out.bel)
  rw [← HM.out, hvv] at CS
  obtain ⟨m, hm⟩ : ∃ m, m = M.length := ⟨_, rfl⟩
  obtain ⟨g, hg⟩ : ∃ g, g = W1.heap.size := ⟨_, rfl⟩
  rw [← hm, ← hg] at CS
  have HCS : Hid _ := CS
  have HMM : Hid (m = M.length) := hm
  have HG : Hid (g = W1.heap.size) := hg
  clear CS hm hg q0 q2 q3 q4 q37
  go_wp2_with fail
  refine Calls.mono HCS.out ?_
  rintro e W2 ⟨rfl, hml, hlr, bS, zS, C, hC⟩
  have HS2 : Hid (Hs f w (Lib.strCells kwS) W2) := HS1.out.below (by rw [← HG.out]; exact bS)
  have HLR : Hid (Lr g 0 M W2 ∧ W2.heap[g]? = some (.cells C 51 (0, 0))) := ⟨hlr, hC⟩
  have hm256 : m ≤ 256 := by rw [HMM.out]; exact HDO.out.1
  clear HCS hml hlr bS zS hC HS1 HG q1 hvv
  go_wp2_with fail
  go_loopw [16] (fun iv wr => ∃ k : Nat, iv = .int .i64 (k : Int) ∧ k ≤ m ∧ Hid (Hs f w (Lib.strCells kwS ++ refC (M.take k)) wr) ∧ Hid (wr.heap[g]? = some (.cells C 51 (0, 0)))) (fun iv _ => m - (intOf iv).toNat)
  case atStart => exact ⟨0, rfl, by omega, by show Hs _ _ _ _; rw [List.take_zero, show refC [] = [] from rfl, List.append_nil]; exact HS2.out, HLR.out.2⟩
  case round =>
    clear HS2
    obtain ⟨k, rfl, hkm, HS, HC⟩ := hrel
    by_cases hlt : k < m
    · have hlt' : (k : Int) < (m : Int) := by omega
      have hk0 : (0 : Int) ≤ (k : Int) := by omega
      have hkM : k < M.length := by have := HMM.out; omega
      obtain ⟨x, hx⟩ : ∃ x, M[k]? = some x := ⟨_, List.getElem?_eq_getElem hkM⟩
      have hxr : wr.rangeAt g (k * 21) (enc x) := fun j u hu => by
        have := HLR.out.1 k x hx j u hu
        rw [Nat.zero_add] at this
        exact (World.cell?_of_block (w := W2) (HC.out.trans HLR.out.2.symm)).trans this
      have lx := run_ldx wr g _ x hxr
      obtain ⟨xo, xs, xb⟩ := HDO.out.2 x (List.mem_of_getElem? hx)
      obtain ⟨W3, s3, r3, b3⟩ := layL wr x.h x.s x.hl
      have HS3 : Hid (Hs f w (Lib.strCells kwS ++ refC (M.take k)) W3) := HS.out.below b3
      have HC3 : Hid (W3.heap[g]? = some (.cells C 51 (0, 0))) := (b3.block g (Array.getElem?_eq_some_iff.1 HC.out).1).trans HC.out
      have l3 := run_loadR25 W3 wr.heap.size x.h x.s r3 x.hl
      have CB : Hid _ := baseOf_any x.h xb x.hl x.s xs W3 HS3.out.tx
      have zz : ¬ (9223372036854775807 < 14 + (baseS x.h x.s).size) := by rw [baseS_size x.h x.s x.hl]; omega
      have HT : Hid (refC (M.take (k + 1)) = refC (M.take k) ++ Lib.strCells (refT x)) := by
        show _ = _
        rw [List.take_succ_eq_append_getElem hkM, refC_snoc]
        rw [List.getElem?_eq_getElem hkM] at hx
        rw [Option.some.inj hx]
      have HLN : Hid ((Lib.strCells kwS ++ refC (M.take k)).length + (refT x).size ≤ 1099511627776) := by
        show _ ≤ _
        have h1 := refC_len (M.take k) (fun y hy => (HDO.out.2 y (List.mem_of_mem_take hy)).2.1)
        rw [List.length_append, Lib.strCells_length, refT_size]
        have h2 : (M.take k).length ≤ 256 := by rw [List.length_take]; omega
        have h3 : (kwS).size ≤ 6 := by decide
        omega
      clear hx hxr HS HC r3 b3 xo xb hkM
      go_wp2_with fail
      refine Calls.mono CB.out ?_
      rintro e W4 ⟨rfl, b4⟩
      have HS4 : Hid (Hs f w (Lib.strCells kwS ++ refC (M.take k)) W4) := HS3.out.below b4
      have HC4 : W4.heap[g]? = some (.cells C 51 (0, 0)) := (b4.block g (Array.getElem?_eq_some_iff.1 HC3.out).1).trans HC3.out
      have CW : Hid (Calls Tryz.prog 36 #[.pointer (some ⟨w.heap.size + 1, 0, none⟩), .string (colS ++ baseS x.h x.s)] W4 _) := ws_far (w.heap.size + 1) (w.heap.size + 1) _ (refT x) W4 HS4.out.isB HLN.out (by have := HS4.out.sz; omega) g C HC4
      clear CB b4 HS3 HC3 HC4 l3 s3 lx HLN xs
      go_wp2_with fail
      refine Calls.mono CW.out ?_
      rintro e W5 ⟨rfl, hi5, b5, hC5⟩
      have HS5 : Hid (Hs f w (Lib.strCells kwS ++ refC (M.take (k + 1))) W5) := by
        show Hs _ _ _ _
        rw [HT.out, ← List.append_assoc]
        exact HS4.out.write hi5 b5 HBK.out.1 HBK.out.2
      have HC5 : Hid (W5.heap[g]? = some (.cells C 51 (0, 0))) := hC5
      clear CW hi5 b5 hC5 HS4 HT zz
      go_wp2
      exact ⟨⟨k + 1, by rfl, by omega, HS5, HC5⟩, by simp only [intOf]; omega⟩
    · have hlt' : ¬ ((k : Int) < (m : Int)) := by omega
      have hke : M.take k = M := List.take_of_length_le (by have := HMM.out; omega)
      rw [hke] at HS
      have HSE : Hid (Hs f w (Lib.strCells kwS ++ refC M) wr) := HS
      have HLN : Hid ((Lib.strCells kwS ++ refC M).length ≤ 100000) := by
        have h1 := refC_len M (fun y hy => (HDO.out.2 y hy).2.1)
        show _ ≤ _
        rw [List.length_append, Lib.strCells_length]
        have h2 : M.length ≤ 256 := HDO.out.1
        have h3 : (kwS).size ≤ 6 := by decide
        omega
      clear HS HC hke HLR
      have HEND : Hid (∀ ys W, Hs f w ys W → ys = Lib.strCells (headT f) → Calls Tryz.prog 40 #[.pointer (some ⟨w.heap.size + 1, 0, none⟩)] W fun e w' => e = .returned (.string (headT f)) ∧ Below w.heap.size w w') := by
        intro ys W hs hy
        have hi := hs.isB
        rw [hy, Lib.strCells_eq] at hi
        have := Any.Builder_String_any Tryz.stL stX (w.heap.size + 1) (w.heap.size + 1) (headT f).data.toList W hi (by have := hs.sz; omega)
        rw [str_of] at this
        exact this.mono fun e w' ⟨a, b⟩ => ⟨a, hs.bel.trans (b.mono (by omega))⟩
      have HHC : Hid (Lib.strCells kwS ++ refC M ++ tlC f = Lib.strCells (headT f)) := by
        show _ = _
        rw [← head_cells f, ← HM.out, hkw.out]
      obtain ⟨q0, q1, q2, q3, q4, q37⟩ := fing_cells HSE.out.row
      rw [HK1.out] at q0
      obtain ⟨sf, hsf⟩ : ∃ sf, sf = f.self := ⟨_, rfl⟩
      rw [← hsf] at q2
      have HSF : Hid (sf = f.self) := hsf
      clear hsf
      cases sf with
      | false =>
        have CE : Hid _ := HEND.out _ wr HSE.out (by rw [← HHC.out]; unfold tlC; rw [← HSF.out, if_neg (by decide)]; rw [if_neg (by rw [HK1.out]; decide), if_neg (by rw [HK1.out]; decide)]; simp)
        go_wp2_with fail
        refine Calls.mono CE.out ?_
        rintro e W9 ⟨rfl, b9⟩
        have HB9 : Hid (Below w.heap.size w W9) := b9
        clear b9 CE
        go_wp2
        go_ret
        exact ⟨rfl, HB9.out⟩
      | true =>
        have CW0 : Hid (Calls Tryz.prog 36 #[.pointer (some ⟨w.heap.size + 1, 0, none⟩), .string selfT] wr _) := ws_any (w.heap.size + 1) (w.heap.size + 1) _ selfT wr HSE.out.isB (by
          have h1 := HLN.out
          have h2 : selfT.size = 5 := rfl
          omega) (by have := HSE.out.sz; omega)
        go_wp2_with fail
        refine Calls.mono CW0.out ?_
        rintro e W6 ⟨rfl, hi6, b6⟩
        have HS6 : Hid (Hs f w (Lib.strCells kwS ++ refC M ++ Lib.strCells selfT) W6) := HSE.out.write hi6 b6 HBK.out.1 HBK.out.2
        clear CW0 hi6 b6 HSE q0 q1 q2 q3 q4 q37
        obtain ⟨q0, q1, q2, q3, q4, q37⟩ := fing_cells HS6.out.row
        rw [HK1.out] at q0
        have CE : Hid _ := HEND.out _ W6 HS6.out (by rw [← HHC.out]; unfold tlC; rw [← HSF.out, if_pos rfl]; rw [if_neg (by rw [HK1.out]; decide), if_neg (by rw [HK1.out]; decide)]; simp)
        go_wp2_with fail
        refine Calls.mono CE.out ?_
        rintro e W9 ⟨rfl, b9⟩
        have HB9 : Hid (Below w.heap.size w W9) := b9
        clear b9 CE
        go_wp2
        go_ret
        exact ⟨rfl, HB9.out⟩
set_option maxRecDepth 100000 in
set_option maxHeartbeats 3200000 in
theorem head_3 (f : Fg) (ok : Ok f) (hk1 : f.k = 3) (w : World) (hk : Tk w) (hx : Tx w) (hv0 : Ls f.v f.L w) :
    Calls Tryz.prog 16 #[.agg (fing f)] w fun e w' => e = .returned (.string (headT f)) ∧ Below w.heap.size w w' := by
  obtain ⟨W0, hW0⟩ : ∃ W0, (w.alloc (.cells (fing f) 26)).alloc (.cells #[.pointer none, .slice none 0 0] 80) = W0 := ⟨_, rfl⟩
  have S0 : Hs f w [] W0 := by rw [← hW0]; exact hs_new f w hk hx
  obtain ⟨M, hM⟩ : ∃ M, M = dd (srt f.L) := ⟨_, rfl⟩
  have DO := dd_ok ok
  rw [← hM] at DO
  have HDO : Hid _ := DO
  have HM : Hid (M = dd (srt f.L)) := hM
  have HOK : Hid (Ok f) := ok
  have HK1 : Hid (f.k = 3) := hk1
  have HBK : Hid (0 < w.heap.size ∧ 4 < w.heap.size) := ⟨hk.sz, hx.sz⟩
  have HLS : Hid (Ls f.v f.L w) := hv0
  obtain ⟨o, c, hvv, -, -⟩ := hv0.form
  have C1 : Hid _ := ws_any (w.heap.size + 1) (w.heap.size + 1) [] kwO W0 S0.isB (by simp [kwO, ByteArray.size]) (by have := S0.sz; omega)
  have f0 : (fing f)[0]? = some (.int .i64 3) := by rw [← hk1]; exact fing_head f 0 (by omega)
  have kwc := S0.tk.w3
  rw [← hW0] at kwc
  have HS0 : Hid (Hs f w [] W0) := S0
  have HW0 : Hid ((w.alloc (.cells (fing f) 26)).alloc (.cells #[.pointer none, .slice none 0 0] 80) = W0) := hW0
  have hkw : Hid (Lib.strCells (kwV f.k) = Lib.strCells kwO) := by show _ = _; rw [hk1]; rfl
  clear hW0 S0 hk hx hM DO ok hk1 hv0
  go_enter Tryz.func16, Tryz.ntmps16
  go_wp2_with fail
  rw [HW0.out]
  refine Calls.mono C1.out ?_
  rintro e W1 ⟨rfl, hi1, b1⟩
  have HS1 : Hid (Hs f w (Lib.strCells kwO) W1) := HS0.out.write hi1 b1 HBK.out.1 HBK.out.2
  clear C1 kwc f0 hi1 b1 HW0 HS0
  obtain ⟨q0, q1, q2, q3, q4, q37⟩ := fing_cells HS1.out.row
  rw [hvv] at q1
  have CS := sortC_any f.L f.hn f.v W1 (HLS.out.below HS1.out.bel)
  rw [← HM.out, hvv] at CS
  obtain ⟨m, hm⟩ : ∃ m, m = M.length := ⟨_, rfl⟩
  obtain ⟨g, hg⟩ : ∃ g, g = W1.heap.size := ⟨_, rfl⟩
  rw [← hm, ← hg] at CS
  have HCS : Hid _ := CS
  have HMM : Hid (m = M.length) := hm
  have HG : Hid (g = W1.heap.size) := hg
  clear CS hm hg q0 q2 q3 q4 q37
  go_wp2_with fail
  refine Calls.mono HCS.out ?_
  rintro e W2 ⟨rfl, hml, hlr, bS, zS, C, hC⟩
  have HS2 : Hid (Hs f w (Lib.strCells kwO) W2) := HS1.out.below (by rw [← HG.out]; exact bS)
  have HLR : Hid (Lr g 0 M W2 ∧ W2.heap[g]? = some (.cells C 51 (0, 0))) := ⟨hlr, hC⟩
  have hm256 : m ≤ 256 := by rw [HMM.out]; exact HDO.out.1
  clear HCS hml hlr bS zS hC HS1 HG q1 hvv
  go_wp2_with fail
  go_loopw [16] (fun iv wr => ∃ k : Nat, iv = .int .i64 (k : Int) ∧ k ≤ m ∧ Hid (Hs f w (Lib.strCells kwO ++ refC (M.take k)) wr) ∧ Hid (wr.heap[g]? = some (.cells C 51 (0, 0)))) (fun iv _ => m - (intOf iv).toNat)
  case atStart => exact ⟨0, rfl, by omega, by show Hs _ _ _ _; rw [List.take_zero, show refC [] = [] from rfl, List.append_nil]; exact HS2.out, HLR.out.2⟩
  case round =>
    clear HS2
    obtain ⟨k, rfl, hkm, HS, HC⟩ := hrel
    by_cases hlt : k < m
    · have hlt' : (k : Int) < (m : Int) := by omega
      have hk0 : (0 : Int) ≤ (k : Int) := by omega
      have hkM : k < M.length := by have := HMM.out; omega
      obtain ⟨x, hx⟩ : ∃ x, M[k]? = some x := ⟨_, List.getElem?_eq_getElem hkM⟩
      have hxr : wr.rangeAt g (k * 21) (enc x) := fun j u hu => by
        have := HLR.out.1 k x hx j u hu
        rw [Nat.zero_add] at this
        exact (World.cell?_of_block (w := W2) (HC.out.trans HLR.out.2.symm)).trans this
      have lx := run_ldx wr g _ x hxr
      obtain ⟨xo, xs, xb⟩ := HDO.out.2 x (List.mem_of_getElem? hx)
      obtain ⟨W3, s3, r3, b3⟩ := layL wr x.h x.s x.hl
      have HS3 : Hid (Hs f w (Lib.strCells kwO ++ refC (M.take k)) W3) := HS.out.below b3
      have HC3 : Hid (W3.heap[g]? = some (.cells C 51 (0, 0))) := (b3.block g (Array.getElem?_eq_some_iff.1 HC.out).1).trans HC.out
      have l3 := run_loadR25 W3 wr.heap.size x.h x.s r3 x.hl
      have CB : Hid _ := baseOf_any x.h xb x.hl x.s xs W3 HS3.out.tx
      have zz : ¬ (9223372036854775807 < 14 + (baseS x.h x.s).size) := by rw [baseS_size x.h x.s x.hl]; omega
      have HT : Hid (refC (M.take (k + 1)) = refC (M.take k) ++ Lib.strCells (refT x)) := by
        show _ = _
        rw [List.take_succ_eq_append_getElem hkM, refC_snoc]
        rw [List.getElem?_eq_getElem hkM] at hx
        rw [Option.some.inj hx]
      have HLN : Hid ((Lib.strCells kwO ++ refC (M.take k)).length + (refT x).size ≤ 1099511627776) := by
        show _ ≤ _
        have h1 := refC_len (M.take k) (fun y hy => (HDO.out.2 y (List.mem_of_mem_take hy)).2.1)
        rw [List.length_append, Lib.strCells_length, refT_size]
        have h2 : (M.take k).length ≤ 256 := by rw [List.length_take]; omega
        have h3 : (kwO).size ≤ 6 := by decide
        omega
      clear hx hxr HS HC r3 b3 xo xb hkM
      go_wp2_with fail
      refine Calls.mono CB.out ?_
      rintro e W4 ⟨rfl, b4⟩
      have HS4 : Hid (Hs f w (Lib.strCells kwO ++ refC (M.take k)) W4) := HS3.out.below b4
      have HC4 : W4.heap[g]? = some (.cells C 51 (0, 0)) := (b4.block g (Array.getElem?_eq_some_iff.1 HC3.out).1).trans HC3.out
      have CW : Hid (Calls Tryz.prog 36 #[.pointer (some ⟨w.heap.size + 1, 0, none⟩), .string (colS ++ baseS x.h x.s)] W4 _) := ws_far (w.heap.size + 1) (w.heap.size + 1) _ (refT x) W4 HS4.out.isB HLN.out (by have := HS4.out.sz; omega) g C HC4
      clear CB b4 HS3 HC3 HC4 l3 s3 lx HLN xs
      go_wp2_with fail
      refine Calls.mono CW.out ?_
      rintro e W5 ⟨rfl, hi5, b5, hC5⟩
      have HS5 : Hid (Hs f w (Lib.strCells kwO ++ refC (M.take (k + 1))) W5) := by
        show Hs _ _ _ _
        rw [HT.out, ← List.append_assoc]
        exact HS4.out.write hi5 b5 HBK.out.1 HBK.out.2
      have HC5 : Hid (W5.heap[g]? = some (.cells C 51 (0, 0))) := hC5
      clear CW hi5 b5 hC5 HS4 HT zz
      go_wp2
      exact ⟨⟨k + 1, by rfl, by omega, HS5, HC5⟩, by simp only [intOf]; omega⟩
    · have hlt' : ¬ ((k : Int) < (m : Int)) := by omega
      have hke : M.take k = M := List.take_of_length_le (by have := HMM.out; omega)
      rw [hke] at HS
      have HSE : Hid (Hs f w (Lib.strCells kwO ++ refC M) wr) := HS
      have HLN : Hid ((Lib.strCells kwO ++ refC M).length ≤ 100000) := by
        have h1 := refC_len M (fun y hy => (HDO.out.2 y hy).2.1)
        show _ ≤ _
        rw [List.length_append, Lib.strCells_length]
        have h2 : M.length ≤ 256 := HDO.out.1
        have h3 : (kwO).size ≤ 6 := by decide
        omega
      clear HS HC hke HLR
      have HEND : Hid (∀ ys W, Hs f w ys W → ys = Lib.strCells (headT f) → Calls Tryz.prog 40 #[.pointer (some ⟨w.heap.size + 1, 0, none⟩)] W fun e w' => e = .returned (.string (headT f)) ∧ Below w.heap.size w w') := by
        intro ys W hs hy
        have hi := hs.isB
        rw [hy, Lib.strCells_eq] at hi
        have := Any.Builder_String_any Tryz.stL stX (w.heap.size + 1) (w.heap.size + 1) (headT f).data.toList W hi (by have := hs.sz; omega)
        rw [str_of] at this
        exact this.mono fun e w' ⟨a, b⟩ => ⟨a, hs.bel.trans (b.mono (by omega))⟩
      have HHC : Hid (Lib.strCells kwO ++ refC M ++ tlC f = Lib.strCells (headT f)) := by
        show _ = _
        rw [← head_cells f, ← HM.out, hkw.out]
      obtain ⟨q0, q1, q2, q3, q4, q37⟩ := fing_cells HSE.out.row
      rw [HK1.out] at q0
      obtain ⟨sf, hsf⟩ : ∃ sf, sf = f.self := ⟨_, rfl⟩
      rw [← hsf] at q2
      have HSF : Hid (sf = f.self) := hsf
      clear hsf
      cases sf with
      | false =>
        have hos : f.out.size ≤ 211 := okN_size _ (HOK.out.out HK1.out)
        have zz : ¬ (9223372036854775807 < 1 + f.out.size) := by omega
        have CW : Hid (Calls Tryz.prog 36 #[.pointer (some ⟨w.heap.size + 1, 0, none⟩), .string (colw ++ f.out)] wr _) := ws_any (w.heap.size + 1) (w.heap.size + 1) _ (colw ++ f.out) wr HSE.out.isB (by
          have h1 := HLN.out
          have h2 : (colw ++ f.out).size ≤ 300 := by rw [app_size]; show 1 + f.out.size ≤ 300; omega
          skip
          omega) (by have := HSE.out.sz; omega)
        go_wp2_with fail
        refine Calls.mono CW.out ?_
        rintro e W7 ⟨rfl, hi7, b7⟩
        have HS7 := HSE.out.write hi7 b7 HBK.out.1 HBK.out.2
        have CE : Hid _ := HEND.out _ W7 HS7 (by rw [← HHC.out]; unfold tlC; rw [← HSF.out, if_neg (by decide)]; rw [if_pos HK1.out]; simp)
        clear CW hi7 b7 HS7 q0 q1 q2 q3 q4 q37 zz
        go_wp2_with fail
        refine Calls.mono CE.out ?_
        rintro e W9 ⟨rfl, b9⟩
        have HB9 : Hid (Below w.heap.size w W9) := b9
        clear b9 CE
        go_wp2
        go_ret
        exact ⟨rfl, HB9.out⟩
      | true =>
        exfalso
        have h1 := HOK.out.un
        rw [unV_eq, HK1.out, ← HSF.out] at h1
        simp at h1
set_option maxRecDepth 100000 in
set_option maxHeartbeats 3200000 in
theorem head_4 (f : Fg) (ok : Ok f) (hk1 : f.k = 4) (w : World) (hk : Tk w) (hx : Tx w) (hv0 : Ls f.v f.L w) :
    Calls Tryz.prog 16 #[.agg (fing f)] w fun e w' => e = .returned (.string (headT f)) ∧ Below w.heap.size w w' := by
  obtain ⟨W0, hW0⟩ : ∃ W0, (w.alloc (.cells (fing f) 26)).alloc (.cells #[.pointer none, .slice none 0 0] 80) = W0 := ⟨_, rfl⟩
  have S0 : Hs f w [] W0 := by rw [← hW0]; exact hs_new f w hk hx
  obtain ⟨M, hM⟩ : ∃ M, M = dd (srt f.L) := ⟨_, rfl⟩
  have DO := dd_ok ok
  rw [← hM] at DO
  have HDO : Hid _ := DO
  have HM : Hid (M = dd (srt f.L)) := hM
  have HOK : Hid (Ok f) := ok
  have HK1 : Hid (f.k = 4) := hk1
  have HBK : Hid (0 < w.heap.size ∧ 4 < w.heap.size) := ⟨hk.sz, hx.sz⟩
  have HLS : Hid (Ls f.v f.L w) := hv0
  obtain ⟨o, c, hvv, -, -⟩ := hv0.form
  have C1 : Hid _ := ws_any (w.heap.size + 1) (w.heap.size + 1) [] kwM W0 S0.isB (by simp [kwM, ByteArray.size]) (by have := S0.sz; omega)
  have f0 : (fing f)[0]? = some (.int .i64 4) := by rw [← hk1]; exact fing_head f 0 (by omega)
  have kwc := S0.tk.w4
  rw [← hW0] at kwc
  have HS0 : Hid (Hs f w [] W0) := S0
  have HW0 : Hid ((w.alloc (.cells (fing f) 26)).alloc (.cells #[.pointer none, .slice none 0 0] 80) = W0) := hW0
  have hkw : Hid (Lib.strCells (kwV f.k) = Lib.strCells kwM) := by show _ = _; rw [hk1]; rfl
  clear hW0 S0 hk hx hM DO ok hk1 hv0
  go_enter Tryz.func16, Tryz.ntmps16
  go_wp2_with fail
  rw [HW0.out]
  refine Calls.mono C1.out ?_
  rintro e W1 ⟨rfl, hi1, b1⟩
  have HS1 : Hid (Hs f w (Lib.strCells kwM) W1) := HS0.out.write hi1 b1 HBK.out.1 HBK.out.2
  clear C1 kwc f0 hi1 b1 HW0 HS0
  obtain ⟨q0, q1, q2, q3, q4, q37⟩ := fing_cells HS1.out.row
  rw [hvv] at q1
  have CS := sortC_any f.L f.hn f.v W1 (HLS.out.below HS1.out.bel)
  rw [← HM.out, hvv] at CS
  obtain ⟨m, hm⟩ : ∃ m, m = M.length := ⟨_, rfl⟩
  obtain ⟨g, hg⟩ : ∃ g, g = W1.heap.size := ⟨_, rfl⟩
  rw [← hm, ← hg] at CS
  have HCS : Hid _ := CS
  have HMM : Hid (m = M.length) := hm
  have HG : Hid (g = W1.heap.size) := hg
  clear CS hm hg q0 q2 q3 q4 q37
  go_wp2_with fail
  refine Calls.mono HCS.out ?_
  rintro e W2 ⟨rfl, hml, hlr, bS, zS, C, hC⟩
  have HS2 : Hid (Hs f w (Lib.strCells kwM) W2) := HS1.out.below (by rw [← HG.out]; exact bS)
  have HLR : Hid (Lr g 0 M W2 ∧ W2.heap[g]? = some (.cells C 51 (0, 0))) := ⟨hlr, hC⟩
  have hm256 : m ≤ 256 := by rw [HMM.out]; exact HDO.out.1
  clear HCS hml hlr bS zS hC HS1 HG q1 hvv
  go_wp2_with fail
  go_loopw [16] (fun iv wr => ∃ k : Nat, iv = .int .i64 (k : Int) ∧ k ≤ m ∧ Hid (Hs f w (Lib.strCells kwM ++ refC (M.take k)) wr) ∧ Hid (wr.heap[g]? = some (.cells C 51 (0, 0)))) (fun iv _ => m - (intOf iv).toNat)
  case atStart => exact ⟨0, rfl, by omega, by show Hs _ _ _ _; rw [List.take_zero, show refC [] = [] from rfl, List.append_nil]; exact HS2.out, HLR.out.2⟩
  case round =>
    clear HS2
    obtain ⟨k, rfl, hkm, HS, HC⟩ := hrel
    by_cases hlt : k < m
    · have hlt' : (k : Int) < (m : Int) := by omega
      have hk0 : (0 : Int) ≤ (k : Int) := by omega
      have hkM : k < M.length := by have := HMM.out; omega
      obtain ⟨x, hx⟩ : ∃ x, M[k]? = some x := ⟨_, List.getElem?_eq_getElem hkM⟩
      have hxr : wr.rangeAt g (k * 21) (enc x) := fun j u hu => by
        have := HLR.out.1 k x hx j u hu
        rw [Nat.zero_add] at this
        exact (World.cell?_of_block (w := W2) (HC.out.trans HLR.out.2.symm)).trans this
      have lx := run_ldx wr g _ x hxr
      obtain ⟨xo, xs, xb⟩ := HDO.out.2 x (List.mem_of_getElem? hx)
      obtain ⟨W3, s3, r3, b3⟩ := layL wr x.h x.s x.hl
      have HS3 : Hid (Hs f w (Lib.strCells kwM ++ refC (M.take k)) W3) := HS.out.below b3
      have HC3 : Hid (W3.heap[g]? = some (.cells C 51 (0, 0))) := (b3.block g (Array.getElem?_eq_some_iff.1 HC.out).1).trans HC.out
      have l3 := run_loadR25 W3 wr.heap.size x.h x.s r3 x.hl
      have CB : Hid _ := baseOf_any x.h xb x.hl x.s xs W3 HS3.out.tx
      have zz : ¬ (9223372036854775807 < 14 + (baseS x.h x.s).size) := by rw [baseS_size x.h x.s x.hl]; omega
      have HT : Hid (refC (M.take (k + 1)) = refC (M.take k) ++ Lib.strCells (refT x)) := by
        show _ = _
        rw [List.take_succ_eq_append_getElem hkM, refC_snoc]
        rw [List.getElem?_eq_getElem hkM] at hx
        rw [Option.some.inj hx]
      have HLN : Hid ((Lib.strCells kwM ++ refC (M.take k)).length + (refT x).size ≤ 1099511627776) := by
        show _ ≤ _
        have h1 := refC_len (M.take k) (fun y hy => (HDO.out.2 y (List.mem_of_mem_take hy)).2.1)
        rw [List.length_append, Lib.strCells_length, refT_size]
        have h2 : (M.take k).length ≤ 256 := by rw [List.length_take]; omega
        have h3 : (kwM).size ≤ 6 := by decide
        omega
      clear hx hxr HS HC r3 b3 xo xb hkM
      go_wp2_with fail
      refine Calls.mono CB.out ?_
      rintro e W4 ⟨rfl, b4⟩
      have HS4 : Hid (Hs f w (Lib.strCells kwM ++ refC (M.take k)) W4) := HS3.out.below b4
      have HC4 : W4.heap[g]? = some (.cells C 51 (0, 0)) := (b4.block g (Array.getElem?_eq_some_iff.1 HC3.out).1).trans HC3.out
      have CW : Hid (Calls Tryz.prog 36 #[.pointer (some ⟨w.heap.size + 1, 0, none⟩), .string (colS ++ baseS x.h x.s)] W4 _) := ws_far (w.heap.size + 1) (w.heap.size + 1) _ (refT x) W4 HS4.out.isB HLN.out (by have := HS4.out.sz; omega) g C HC4
      clear CB b4 HS3 HC3 HC4 l3 s3 lx HLN xs
      go_wp2_with fail
      refine Calls.mono CW.out ?_
      rintro e W5 ⟨rfl, hi5, b5, hC5⟩
      have HS5 : Hid (Hs f w (Lib.strCells kwM ++ refC (M.take (k + 1))) W5) := by
        show Hs _ _ _ _
        rw [HT.out, ← List.append_assoc]
        exact HS4.out.write hi5 b5 HBK.out.1 HBK.out.2
      have HC5 : Hid (W5.heap[g]? = some (.cells C 51 (0, 0))) := hC5
      clear CW hi5 b5 hC5 HS4 HT zz
      go_wp2
      exact ⟨⟨k + 1, by rfl, by omega, HS5, HC5⟩, by simp only [intOf]; omega⟩
    · have hlt' : ¬ ((k : Int) < (m : Int)) := by omega
      have hke : M.take k = M := List.take_of_length_le (by have := HMM.out; omega)
      rw [hke] at HS
      have HSE : Hid (Hs f w (Lib.strCells kwM ++ refC M) wr) := HS
      have HLN : Hid ((Lib.strCells kwM ++ refC M).length ≤ 100000) := by
        have h1 := refC_len M (fun y hy => (HDO.out.2 y hy).2.1)
        show _ ≤ _
        rw [List.length_append, Lib.strCells_length]
        have h2 : M.length ≤ 256 := HDO.out.1
        have h3 : (kwM).size ≤ 6 := by decide
        omega
      clear HS HC hke HLR
      have HEND : Hid (∀ ys W, Hs f w ys W → ys = Lib.strCells (headT f) → Calls Tryz.prog 40 #[.pointer (some ⟨w.heap.size + 1, 0, none⟩)] W fun e w' => e = .returned (.string (headT f)) ∧ Below w.heap.size w w') := by
        intro ys W hs hy
        have hi := hs.isB
        rw [hy, Lib.strCells_eq] at hi
        have := Any.Builder_String_any Tryz.stL stX (w.heap.size + 1) (w.heap.size + 1) (headT f).data.toList W hi (by have := hs.sz; omega)
        rw [str_of] at this
        exact this.mono fun e w' ⟨a, b⟩ => ⟨a, hs.bel.trans (b.mono (by omega))⟩
      have HHC : Hid (Lib.strCells kwM ++ refC M ++ tlC f = Lib.strCells (headT f)) := by
        show _ = _
        rw [← head_cells f, ← HM.out, hkw.out]
      obtain ⟨q0, q1, q2, q3, q4, q37⟩ := fing_cells HSE.out.row
      rw [HK1.out] at q0
      obtain ⟨sf, hsf⟩ : ∃ sf, sf = f.self := ⟨_, rfl⟩
      rw [← hsf] at q2
      have HSF : Hid (sf = f.self) := hsf
      clear hsf
      cases sf with
      | false =>
        obtain ⟨i, hi⟩ : ∃ i : Nat, f.ix = (i : Int) := ⟨f.ix.toNat, by have := HOK.out.i0; omega⟩
        have hi64 : i < 100 := by have := HOK.out.i6; omega
        rw [hi] at q4
        have CI : Hid _ := itoa_any i hi64 wr
        have zz : ¬ (9223372036854775807 < 1 + (itoaT i).size) := by have := itoaT_size i hi64; omega
        have HI : Hid (f.ix.toNat = i) := by show _ = _; rw [hi]; rfl
        have HSZ : Hid ((itoaT i).size ≤ 2) := itoaT_size i hi64
        clear hi hi64
        have CW : Hid (Calls Tryz.prog 36 #[.pointer (some ⟨w.heap.size + 1, 0, none⟩), .string (colw ++ itoaT i)] wr _) := ws_any (w.heap.size + 1) (w.heap.size + 1) _ (colw ++ itoaT i) wr HSE.out.isB (by
          have h1 := HLN.out
          have h2 : (colw ++ itoaT i).size ≤ 300 := by rw [app_size]; have := HSZ.out; show 1 + (itoaT i).size ≤ 300; omega
          skip
          omega) (by have := HSE.out.sz; omega)
        go_wp2_with fail
        refine Calls.mono CI.out ?_
        rintro e W8 ⟨rfl, rfl⟩
        clear CI
        go_wp2_with fail
        refine Calls.mono CW.out ?_
        rintro e W7 ⟨rfl, hi7, b7⟩
        have HS7 := HSE.out.write hi7 b7 HBK.out.1 HBK.out.2
        have CE : Hid _ := HEND.out _ W7 HS7 (by rw [← HHC.out]; unfold tlC; rw [← HSF.out, if_neg (by decide)]; rw [if_neg (by rw [HK1.out]; decide), if_pos HK1.out, HI.out]; simp)
        clear CW hi7 b7 HS7 q0 q1 q2 q3 q4 q37 zz
        go_wp2_with fail
        refine Calls.mono CE.out ?_
        rintro e W9 ⟨rfl, b9⟩
        have HB9 : Hid (Below w.heap.size w W9) := b9
        clear b9 CE
        go_wp2
        go_ret
        exact ⟨rfl, HB9.out⟩
      | true =>
        exfalso
        have h1 := HOK.out.un
        rw [unV_eq, HK1.out, ← HSF.out] at h1
        simp at h1
theorem head_any (f : Fg) (ok : Ok f) (w : World) (hk : Tk w) (hx : Tx w) (hv0 : Ls f.v f.L w) :
    Calls Tryz.prog 16 #[.agg (fing f)] w fun e w' => e = .returned (.string (headT f)) ∧ Below w.heap.size w w' := by
  have : f.k = 1 ∨ f.k = 2 ∨ f.k = 3 ∨ f.k = 4 := by have := ok.k1; have := ok.k4; omega
  rcases this with h1 | h1 | h1 | h1
  · exact head_1 f ok h1 w hk hx hv0
  · exact head_2 f ok h1 w hk hx hv0
  · exact head_3 f ok h1 w hk hx hv0
  · exact head_4 f ok h1 w hk hx hv0
end Go.Proofs.YtffghlbgbfhfdaaGreatDoor
