/- readHead. -/
import Derived.Test.YtffghlbgbfhfdaaDoorLnR
import Derived.Shelf.Strconv.Atoi
import Derived.Lib.AtoiErrMem
namespace Go.Proofs.YtffghlbgbfhfdaaDoor
open Go.RowKit Go.Shelf Go.Sort
shelf_lay Lays.n172 Nm 172 at Tryd as Tryd.atL
theorem atoi_any (i : Nat) (hi : i < 64) (w : World) : Calls Tryd.prog 41 #[.string (itoaT i)] w fun e w' => e = .returned (.tuple #[.int .i64 (i : Int), .nilIface]) ∧ Below w.heap.size w w' :=
  (Any.strconv_Atoi Tryd.atL (itoaT i) (i : Int) (by have := itoaT_size i (by omega); omega) (atoi_itoa i hi) w).mono fun _ _ ⟨a, t, b⟩ => ⟨a, by rw [b]; exact Lib.bytesWorld_below _ _ _⟩
theorem head_rst (f : Fg) : Rst (bl (kwV f.k) :: ((dd (srt f.L)).map prT ++ tlP f)) (headT f) true :=
  ⟨(fun h => by cases h), fun p q h => by injection h with h1 h2; subst h1 h2; exact ⟨rfl, head_bl f⟩⟩
theorem tlP_12 {f : Fg} (h : f.k = 1 ∨ f.k = 2) : tlP f = if f.self then [bl selfW] else [] := by
  have h3 : ¬ f.k = 3 := by omega
  have h4 : ¬ f.k = 4 := by omega
  unfold tlP
  rw [if_neg h3, if_neg h4, List.append_nil]
theorem dd_none : dd (srt []) = [] := by
  have : srt [] = [] := by simp [srt]
  rw [this]
  rfl
/-- What readHead answers. -/
def HdP (f : Fg) (sm : List Nat) (nm : ByteArray) (g : Nat) (w : World) (e : Ending) (w' : World) : Prop :=
  e = .returned (.bool true) ∧ ∃ v, w'.heap[g]? = some (.cells (fgA f.k v f.self f.out f.ix sm nm) 26 (0, 0)) ∧ w'.ownsRow w.heap.size 60 21 v (dd (srt f.L)).length (cells (dd (srt f.L))) ∧ Touch g w w'
set_option maxRecDepth 100000 in
set_option maxHeartbeats 3200000 in
theorem hd_1 (f : Fg) (ok : Ok f) (hk1 : f.k = 1) (sm : List Nat) (nm : ByteArray) (g : Nat) (w : World) (hk : Tk w) (hx : Tx w) (hg5 : 4 < g) (hg : w.heap[g]? = some (.cells (fgA 0 (.slice none 0 0) false ⟨#[]⟩ 0 sm nm) 26 (0, 0))) :
    Calls Tryd.prog 26 #[.pointer (some ⟨g, 0, none⟩), .string (headT f)] w (HdP f sm nm g w) := by
  have hz := head_size ok
  obtain ⟨r', b', hc, hrst, hlt, -⟩ := cut_rst (head_rst f) (kwV_nc f.k)
  have hlt' := hlt (by rw [hk1]; decide)
  have hw : ofL (bl (kwV f.k)) = ⟨#[116, 101, 120, 116]⟩ := by rw [hk1]; rfl
  have CC : Hid _ := cut_any (headT f) (by omega) w
  have hcc : cutV (headT f).data.toList = _ := hc
  rw [hcc, hw] at CC
  obtain ⟨-, u2, u3, u4⟩ := un_facts ok
  have DO := dd_ok ok
  rw [tlP_12 (by omega)] at hrst
  have HRF : Hid (∀ W, Tx W → W.heap[g]? = some (.cells (fgA 1 (.slice none 0 0) false ⟨#[]⟩ 0 sm nm) 26 (0, 0)) → Calls Tryd.prog 40 #[.pointer (some ⟨g, 0, none⟩), .string r', .bool b'] W fun e w' => e = .returned (.bool true) ∧ ∃ v, w'.heap[g]? = some (.cells (fgA f.k v f.self f.out f.ix sm nm) 26 (0, 0)) ∧ w'.ownsRow W.heap.size 60 21 v (dd (srt f.L)).length (cells (dd (srt f.L))) ∧ Touch g W w') := fun W hW hGW => by
    have := refs_read (dd (srt f.L)) (fun x hx => ⟨(DO.2 x hx).1, (DO.2 x hx).2.2⟩) DO.1 f.self r' b' hrst (by omega) 1 ⟨#[]⟩ 0 sm nm g W hW hGW hg5
    rw [hk1, u3 (by omega), u4 (by omega)]
    exact this
  have HK : Hid (Tk w) := hk
  have HX : Hid (Tx w) := hx
  have HG : Hid (w.heap[g]? = some (.cells (fgA 0 (.slice none 0 0) false ⟨#[]⟩ 0 sm nm) 26 (0, 0))) := hg
  have HG5 : Hid (4 < g) := hg5
  clear hz hc hrst hlt hlt' hw hcc u2 u3 u4 DO hk hx hg hg5
  go_enter Tryd.func26, Tryd.ntmps26
  go_wp2_with fail
  refine Calls.mono CC.out ?_
  rintro e W1 ⟨rfl, b1⟩
  have HB1 : Hid (Below w.heap.size w W1) := b1
  have HG1 : Hid (W1.heap[g]? = some (.cells (fgA 0 (.slice none 0 0) false ⟨#[]⟩ 0 sm nm) 26 (0, 0))) := (b1.block g (Array.getElem?_eq_some_iff.1 HG.out).1).trans HG.out
  have T1 : Tk W1 := HK.out.below b1 HK.out.sz
  have HX1 : Hid (Tx W1) := HX.out.below b1 HX.out.sz
  obtain ⟨q0, -, -, -, -⟩ := fgA_cells HG1.out
  have f0 : W1.frozen? ⟨g, 0, none⟩ = false := frozen_of_row _ _ _ _ _ HG1.out
  have w1 := T1.w1
  have w2 := T1.w2
  have T0 : Touch g w W1 := Touch.of_below b1
  have HT : Hid (Touch g w (W1.setCell ⟨g, 0, none⟩ (.int .i64 1))) := T0.setCell _
  have TX2 : Touch g W1 (W1.setCell ⟨g, 0, none⟩ (.int .i64 1)) := (Touch.refl g W1).setCell _
  have CR : Hid _ := HRF.out (W1.setCell ⟨g, 0, none⟩ (.int .i64 1)) (HX1.out.touch TX2 HG5.out) ((set_fgA HG1.out).1 1)
  clear CC b1 T1 T0 TX2 HRF
  go_wp2_with fail
  refine Calls.mono CR.out ?_
  rintro e W3 ⟨rfl, v, h3, hl3, t3⟩
  have HE : Hid (∃ v, W3.heap[g]? = some (.cells (fgA f.k v f.self f.out f.ix sm nm) 26 (0, 0)) ∧ W3.ownsRow w.heap.size 60 21 v (dd (srt f.L)).length (cells (dd (srt f.L))) ∧ Touch g w W3) := ⟨v, h3, own_down hl3 HT.out.size, HT.out.trans t3⟩
  clear CR h3 hl3 t3 HT q0 w1 w2
  go_wp2
  go_ret
  exact ⟨rfl, HE.out⟩
set_option maxRecDepth 100000 in
set_option maxHeartbeats 3200000 in
theorem hd_2 (f : Fg) (ok : Ok f) (hk1 : f.k = 2) (sm : List Nat) (nm : ByteArray) (g : Nat) (w : World) (hk : Tk w) (hx : Tx w) (hg5 : 4 < g) (hg : w.heap[g]? = some (.cells (fgA 0 (.slice none 0 0) false ⟨#[]⟩ 0 sm nm) 26 (0, 0))) :
    Calls Tryd.prog 26 #[.pointer (some ⟨g, 0, none⟩), .string (headT f)] w (HdP f sm nm g w) := by
  have hz := head_size ok
  obtain ⟨r', b', hc, hrst, hlt, -⟩ := cut_rst (head_rst f) (kwV_nc f.k)
  have hlt' := hlt (by rw [hk1]; decide)
  have hw : ofL (bl (kwV f.k)) = ⟨#[115, 111, 117, 114, 99, 101]⟩ := by rw [hk1]; rfl
  have CC : Hid _ := cut_any (headT f) (by omega) w
  have hcc : cutV (headT f).data.toList = _ := hc
  rw [hcc, hw] at CC
  obtain ⟨-, u2, u3, u4⟩ := un_facts ok
  have DO := dd_ok ok
  rw [tlP_12 (by omega)] at hrst
  have HRF : Hid (∀ W, Tx W → W.heap[g]? = some (.cells (fgA 2 (.slice none 0 0) false ⟨#[]⟩ 0 sm nm) 26 (0, 0)) → Calls Tryd.prog 40 #[.pointer (some ⟨g, 0, none⟩), .string r', .bool b'] W fun e w' => e = .returned (.bool true) ∧ ∃ v, w'.heap[g]? = some (.cells (fgA f.k v f.self f.out f.ix sm nm) 26 (0, 0)) ∧ w'.ownsRow W.heap.size 60 21 v (dd (srt f.L)).length (cells (dd (srt f.L))) ∧ Touch g W w') := fun W hW hGW => by
    have := refs_read (dd (srt f.L)) (fun x hx => ⟨(DO.2 x hx).1, (DO.2 x hx).2.2⟩) DO.1 f.self r' b' hrst (by omega) 2 ⟨#[]⟩ 0 sm nm g W hW hGW hg5
    rw [hk1, u3 (by omega), u4 (by omega)]
    exact this
  have HK : Hid (Tk w) := hk
  have HX : Hid (Tx w) := hx
  have HG : Hid (w.heap[g]? = some (.cells (fgA 0 (.slice none 0 0) false ⟨#[]⟩ 0 sm nm) 26 (0, 0))) := hg
  have HG5 : Hid (4 < g) := hg5
  clear hz hc hrst hlt hlt' hw hcc u2 u3 u4 DO hk hx hg hg5
  go_enter Tryd.func26, Tryd.ntmps26
  go_wp2_with fail
  refine Calls.mono CC.out ?_
  rintro e W1 ⟨rfl, b1⟩
  have HB1 : Hid (Below w.heap.size w W1) := b1
  have HG1 : Hid (W1.heap[g]? = some (.cells (fgA 0 (.slice none 0 0) false ⟨#[]⟩ 0 sm nm) 26 (0, 0))) := (b1.block g (Array.getElem?_eq_some_iff.1 HG.out).1).trans HG.out
  have T1 : Tk W1 := HK.out.below b1 HK.out.sz
  have HX1 : Hid (Tx W1) := HX.out.below b1 HX.out.sz
  obtain ⟨q0, -, -, -, -⟩ := fgA_cells HG1.out
  have f0 : W1.frozen? ⟨g, 0, none⟩ = false := frozen_of_row _ _ _ _ _ HG1.out
  have w1 := T1.w1
  have w2 := T1.w2
  have T0 : Touch g w W1 := Touch.of_below b1
  have HT : Hid (Touch g w (W1.setCell ⟨g, 0, none⟩ (.int .i64 2))) := T0.setCell _
  have TX2 : Touch g W1 (W1.setCell ⟨g, 0, none⟩ (.int .i64 2)) := (Touch.refl g W1).setCell _
  have CR : Hid _ := HRF.out (W1.setCell ⟨g, 0, none⟩ (.int .i64 2)) (HX1.out.touch TX2 HG5.out) ((set_fgA HG1.out).1 2)
  clear CC b1 T1 T0 TX2 HRF
  go_wp2_with fail
  refine Calls.mono CR.out ?_
  rintro e W3 ⟨rfl, v, h3, hl3, t3⟩
  have HE : Hid (∃ v, W3.heap[g]? = some (.cells (fgA f.k v f.self f.out f.ix sm nm) 26 (0, 0)) ∧ W3.ownsRow w.heap.size 60 21 v (dd (srt f.L)).length (cells (dd (srt f.L))) ∧ Touch g w W3) := ⟨v, h3, own_down hl3 HT.out.size, HT.out.trans t3⟩
  clear CR h3 hl3 t3 HT q0 w1 w2
  go_wp2
  go_ret
  exact ⟨rfl, HE.out⟩
set_option maxRecDepth 100000 in
set_option maxHeartbeats 3200000 in
theorem hd_3 (f : Fg) (ok : Ok f) (hk1 : f.k = 3) (sm : List Nat) (nm : ByteArray) (g : Nat) (w : World) (hk : Tk w) (_hx : Tx w) (_hg5 : 4 < g) (hg : w.heap[g]? = some (.cells (fgA 0 (.slice none 0 0) false ⟨#[]⟩ 0 sm nm) 26 (0, 0))) :
    Calls Tryd.prog 26 #[.pointer (some ⟨g, 0, none⟩), .string (headT f)] w (HdP f sm nm g w) := by
  have hz := head_size ok
  obtain ⟨u1, u2, u3, u4⟩ := un_facts ok
  have hL : f.L = [] := u1 (by omega)
  have hsf : f.self = false := u2 (by omega)
  have hM : dd (srt f.L) = [] := by rw [hL]; exact dd_none
  have hR0 := head_rst f
  have htl : tlP f = [bl f.out] := by unfold tlP; rw [hsf, if_pos hk1]; rfl
  rw [hM, htl, List.map_nil, List.nil_append] at hR0
  obtain ⟨r', b', hc, hrst, -, -⟩ := cut_rst hR0 (kwV_nc f.k)
  obtain ⟨rfl, hbl⟩ := hrst.some _ _ rfl
  rw [fl_nil, List.append_nil] at hbl
  obtain rfl : r' = f.out := bl_inj hbl
  have hw : ofL (bl (kwV f.k)) = ⟨#[111, 117, 116, 112, 117, 116]⟩ := by rw [hk1]; rfl
  have CC : Hid _ := cut_any (headT f) (by omega) w
  have hcc : cutV (headT f).data.toList = _ := hc
  rw [hcc, hw] at CC
  have HEQ : Hid (∀ W, W.heap[g]? = some (.cells (fgA 3 (.slice none 0 0) false f.out 0 sm nm) 26 (0, 0)) → Touch g w W → ∃ v, W.heap[g]? = some (.cells (fgA f.k v f.self f.out f.ix sm nm) 26 (0, 0)) ∧ W.ownsRow w.heap.size 60 21 v (dd (srt f.L)).length (cells (dd (srt f.L))) ∧ Touch g w W) := fun W h t => ⟨.slice none 0 0, by rw [hk1, hsf, u4 (by omega)]; exact h, by rw [hM, cells_nil]; exact World.ownsRow_nil _ _ _ _, t⟩
  have HK : Hid (Tk w) := hk
  have HG : Hid (w.heap[g]? = some (.cells (fgA 0 (.slice none 0 0) false ⟨#[]⟩ 0 sm nm) 26 (0, 0))) := hg
  clear hz hc hrst hw hcc u1 u2 u3 u4 hk hg hL hsf hM hR0 htl hbl ok
  go_enter Tryd.func26, Tryd.ntmps26
  go_wp2_with fail
  refine Calls.mono CC.out ?_
  rintro e W1 ⟨rfl, b1⟩
  have HG1 : Hid (W1.heap[g]? = some (.cells (fgA 0 (.slice none 0 0) false ⟨#[]⟩ 0 sm nm) 26 (0, 0))) := (b1.block g (Array.getElem?_eq_some_iff.1 HG.out).1).trans HG.out
  have T1 : Tk W1 := HK.out.below b1 HK.out.sz
  obtain ⟨q0, -, -, -, -⟩ := fgA_cells HG1.out
  have f0 : W1.frozen? ⟨g, 0, none⟩ = false := frozen_of_row _ _ _ _ _ HG1.out
  have w1 := T1.w1
  have w2 := T1.w2
  have w3 := T1.w3
  have w4 := T1.w4
  have T0 : Hid (Touch g w W1) := Touch.of_below b1
  have HG2 : Hid ((W1.setCell ⟨g, 0, none⟩ (.int .i64 3)).heap[g]? = some (.cells (fgA 3 (.slice none 0 0) false ⟨#[]⟩ 0 sm nm) 26 (0, 0))) := (set_fgA HG1.out).1 3
  have T2 : Hid (Touch g w (W1.setCell ⟨g, 0, none⟩ (.int .i64 3))) := T0.out.setCell _
  obtain ⟨W2, hW2⟩ : ∃ W2, W1.setCell ⟨g, 0, none⟩ (.int .i64 3) = W2 := ⟨_, rfl⟩
  have HW2 : Hid _ := hW2
  rw [hW2] at HG2 T2
  clear CC b1 T1 hW2
  obtain ⟨-, -, -, q3, -⟩ := fgA_cells HG2.out
  have f3 : W2.frozen? ⟨g, 3, none⟩ = false := frozen_of_row _ _ _ _ _ HG2.out
  have HE : Hid _ := HEQ.out (W2.setCell ⟨g, 3, none⟩ (.string f.out)) ((set_fgA HG2.out).2.2.2.1 f.out) (T2.out.setCell _)
  have q3' : (W1.setCell ⟨g, 0, none⟩ (.int .i64 3)).cell? ⟨g, 3, none⟩ = some (.string ⟨#[]⟩) := by rw [HW2.out]; exact q3
  have f3' : (W1.setCell ⟨g, 0, none⟩ (.int .i64 3)).frozen? ⟨g, 3, none⟩ = false := by rw [HW2.out]; exact f3
  go_wp2
  rw [HW2.out]
  go_ret
  exact ⟨rfl, HE.out⟩
end Go.Proofs.YtffghlbgbfhfdaaDoor
