/- readHead, of a member. -/
import Derived.Test.YtffghlbgbfhfdaaDoorLnH
namespace Go.Proofs.YtffghlbgbfhfdaaDoor
open Go.RowKit Go.Shelf Go.Sort
set_option maxRecDepth 100000 in
set_option maxHeartbeats 3200000 in
theorem hd_4 (f : Fg) (ok : Ok f) (hk1 : f.k = 4) (sm : List Nat) (nm : ByteArray) (g : Nat) (w : World) (hk : Tk w) (_hx : Tx w) (_hg5 : 4 < g) (hg : w.heap[g]? = some (.cells (fgA 0 (.slice none 0 0) false ⟨#[]⟩ 0 sm nm) 26 (0, 0))) :
    Calls Tryd.prog 26 #[.pointer (some ⟨g, 0, none⟩), .string (headT f)] w (HdP f sm nm g w) := by
  have hz := head_size ok
  obtain ⟨N, hN⟩ : ∃ N, N = f.ix.toNat := ⟨_, rfl⟩
  have HN : Hid (N < 64 ∧ (N : Int) = f.ix) := (⟨by have h1 := ok.i0; have h2 := ok.i6; omega, by have h1 := ok.i0; omega⟩ : N < 64 ∧ (N : Int) = f.ix)
  obtain ⟨u1, u2, u3, u4⟩ := un_facts ok
  have hL : f.L = [] := u1 (by omega)
  have hsf : f.self = false := u2 (by omega)
  have hM : dd (srt f.L) = [] := by rw [hL]; exact dd_none
  have hR0 := head_rst f
  have htl : tlP f = [bl (itoaT N)] := by unfold tlP; rw [hsf, if_neg (show ¬ f.k = 3 by omega), if_pos hk1, ← hN]; rfl
  rw [hM, htl, List.map_nil, List.nil_append] at hR0
  obtain ⟨r', b', hc, hrst, -, -⟩ := cut_rst hR0 (kwV_nc f.k)
  obtain ⟨rfl, hbl⟩ := hrst.some _ _ rfl
  rw [fl_nil, List.append_nil] at hbl
  obtain rfl : r' = (itoaT N) := bl_inj hbl
  have hw : ofL (bl (kwV f.k)) = ⟨#[109, 101, 109, 98, 101, 114]⟩ := by rw [hk1]; rfl
  have CC : Hid _ := cut_any (headT f) (by omega) w
  have hcc : cutV (headT f).data.toList = _ := hc
  rw [hcc, hw] at CC
  have HEQ : Hid (∀ W, W.heap[g]? = some (.cells (fgA 4 (.slice none 0 0) false ⟨#[]⟩ (N : Int) sm nm) 26 (0, 0)) → Touch g w W → ∃ v, W.heap[g]? = some (.cells (fgA f.k v f.self f.out f.ix sm nm) 26 (0, 0)) ∧ W.ownsRow w.heap.size 60 21 v (dd (srt f.L)).length (cells (dd (srt f.L))) ∧ Touch g w W) := fun W h t => ⟨.slice none 0 0, by rw [hk1, hsf, u3 (by omega), ← HN.out.2]; exact h, by rw [hM, cells_nil]; exact World.ownsRow_nil _ _ _ _, t⟩
  have HK : Hid (Tk w) := hk
  have HG : Hid (w.heap[g]? = some (.cells (fgA 0 (.slice none 0 0) false ⟨#[]⟩ 0 sm nm) 26 (0, 0))) := hg
  clear hz hc hrst hw hcc u1 u2 u3 u4 hk hg hL hsf hM hR0 htl hbl ok
  go_enter Tryd.func26, Tryd.ntmps26
  go_wp2_with fail
  refine Calls.mono CC.out ?_
  rintro e W1 ⟨rfl, b1⟩
  have HG1 : Hid (W1.heap[g]? = some (.cells (fgA 0 (.slice none 0 0) false ⟨#[]⟩ 0 sm nm) 26 (0, 0))) := (b1.block g (Array.getElem?_eq_some_iff.1 HG.out).1).trans HG.out
  have T1 : Tk W1 := HK.out.below b1 HK.out.sz
  obtain ⟨q0, -, -, -, -⟩ := fgA_cells HG1.out
  have f0 : W1.frozen? ⟨g, 0, none⟩ = false := frozen_of_row _ _ _ _ _ HG1.out
  have w1 := T1.w1
  have w2 := T1.w2
  have w3 := T1.w3
  have w4 := T1.w4
  have T0 : Hid (Touch g w W1) := Touch.of_below b1
  have HG2 : Hid ((W1.setCell ⟨g, 0, none⟩ (.int .i64 4)).heap[g]? = some (.cells (fgA 4 (.slice none 0 0) false ⟨#[]⟩ 0 sm nm) 26 (0, 0))) := (set_fgA HG1.out).1 4
  have T2 : Hid (Touch g w (W1.setCell ⟨g, 0, none⟩ (.int .i64 4))) := T0.out.setCell _
  obtain ⟨W2, hW2⟩ : ∃ W2, W1.setCell ⟨g, 0, none⟩ (.int .i64 4) = W2 := ⟨_, rfl⟩
  have HW2 : Hid _ := hW2
  rw [hW2] at HG2 T2
  clear CC b1 T1 hW2
  have CA : Hid _ := atoi_any N HN.out.1 W2
  go_wp2_with fail
  rw [HW2.out, ← hN]
  refine Calls.mono CA.out ?_
  rintro e W3 ⟨rfl, b3⟩
  have HG3 : Hid (W3.heap[g]? = some (.cells (fgA 4 (.slice none 0 0) false ⟨#[]⟩ 0 sm nm) 26 (0, 0))) := (b3.block g (Array.getElem?_eq_some_iff.1 HG2.out).1).trans HG2.out
  have T3 : Hid (Touch g w W3) := tch_below T2.out b3
  obtain ⟨-, -, -, -, q4⟩ := fgA_cells HG3.out
  have f4 : W3.frozen? ⟨g, 4, none⟩ = false := frozen_of_row _ _ _ _ _ HG3.out
  have HE : Hid _ := HEQ.out (W3.setCell ⟨g, 4, none⟩ (.int .i64 (N : Int))) ((set_fgA HG3.out).2.2.2.2 _) (T3.out.setCell _)
  clear CA b3 HG2 T2 HW2 hN
  go_wp2
  go_ret
  exact ⟨rfl, HE.out⟩
theorem hd_any (f : Fg) (ok : Ok f) (sm : List Nat) (nm : ByteArray) (g : Nat) (w : World) (hk : Tk w) (hx : Tx w) (hg5 : 4 < g) (hg : w.heap[g]? = some (.cells (fgA 0 (.slice none 0 0) false ⟨#[]⟩ 0 sm nm) 26 (0, 0))) :
    Calls Tryd.prog 26 #[.pointer (some ⟨g, 0, none⟩), .string (headT f)] w (HdP f sm nm g w) := by
  have h1 := ok.k1
  have h4 := ok.k4
  have hc : f.k = 1 ∨ f.k = 2 ∨ f.k = 3 ∨ f.k = 4 := by omega
  rcases hc with h | h | h | h
  · exact hd_1 f ok h sm nm g w hk hx hg5 hg
  · exact hd_2 f ok h sm nm g w hk hx hg5 hg
  · exact hd_3 f ok h sm nm g w hk hx hg5 hg
  · exact hd_4 f ok h sm nm g w hk hx hg5 hg
end Go.Proofs.YtffghlbgbfhfdaaDoor
