/- LabelSorts: mark, roomy, sameLabels. -/
import Derived.Test.YtjbomhihhgblbaaSr5
namespace Go.Proofs.Ytjbomhihhgblbaa
open Go.RowKit Go.Shelf Go.Sort
theorem flat_get : ∀ (L : List Lb) (j : Nat), j < L.length * 21 → ∃ x, L[j / 21]? = some x ∧ (L.flatMap enc)[j]? = (enc x)[j % 21]?
  | [], j, h => by simp at h
  | y :: L, j, h => by
    rw [List.flatMap_cons]
    by_cases hj : j < 21
    · refine ⟨y, by rw [show j / 21 = 0 by omega]; rfl, ?_⟩
      rw [List.getElem?_append_left (by rw [enc_len]; exact hj), show j % 21 = j by omega]
    · simp only [List.length_cons] at h
      obtain ⟨x, h1, h2⟩ := flat_get L (j - 21) (by omega)
      refine ⟨x, ?_, ?_⟩
      · rw [show j / 21 = (j - 21) / 21 + 1 by omega]; exact h1
      · rw [List.getElem?_append_right (by rw [enc_len]; omega), enc_len, h2, show (j - 21) % 21 = j % 21 by omega]
theorem flat_len (L : List Lb) : (L.flatMap enc).length = L.length * 21 := by
  induction L with
  | nil => rfl
  | cons x L ih => rw [List.flatMap_cons, List.length_append, ih, enc_len, List.length_cons]; omega
theorem cells_flat (L : List Lb) : cells L = L.flatMap enc := by
  apply List.ext_getElem?
  intro j
  by_cases hj : j < L.length * 21
  · obtain ⟨x, h1, h2⟩ := cells_get L j hj
    obtain ⟨y, h3, h4⟩ := flat_get L j hj
    obtain rfl := Option.some.inj (h1.symm.trans h3)
    rw [h2, h4]
  · rw [List.getElem?_eq_none (by rw [cells_len]; omega), List.getElem?_eq_none (by rw [flat_len]; omega)]
theorem cells_app (A B : List Lb) : cells (A ++ B) = cells A ++ cells B := by rw [cells_flat, cells_flat, cells_flat, List.flatMap_append]
theorem cells_nil : cells [] = [] := by rw [cells_flat]; rfl
theorem cells_single (x : Lb) : cells [x] = enc x := by rw [cells_flat]; simp
/-- An owned row of labels, as a slice of labels. -/
theorem own_ls {w : World} {base n : Nat} {v : Value} {L : List Lb} (h : w.ownsRow base 29 21 v n (cells L)) : n = L.length ∧ ((L = [] ∧ v = .slice none 0 0) ∨ ∃ g cap, v = .slice (some ⟨g, 0, none⟩) L.length cap ∧ base ≤ g ∧ g < w.heap.size ∧ L.length ≤ cap ∧ cap ≤ maxLen ∧ Lr g 0 L w) := by
  obtain ⟨hl, ⟨hv, h0⟩ | ⟨g, cap, cur, hv, hb, hg, hnc, hcm, hcs, htk⟩⟩ := h
  · rw [cells_len] at hl
    exact ⟨by omega, .inl ⟨List.length_eq_zero_iff.1 (by omega), hv⟩⟩
  · rw [cells_len] at hl
    have hn : n = L.length := by omega
    subst hn
    refine ⟨rfl, .inr ⟨g, cap, hv, hb, (Array.getElem?_eq_some_iff.1 hg).1, hnc, hcm, fun i x hx j u hu => ?_⟩⟩
    have hi := (List.getElem?_eq_some_iff.1 hx).1
    have hj : j < 21 := by have := (List.getElem?_eq_some_iff.1 hu).1; rwa [enc_len] at this
    have hlt : i * 21 + j < L.length * 21 := by omega
    rw [Nat.zero_add, cell_of_row w _ _ _ _ _ hg, ← Array.getElem?_toList]
    have e : cur.toList[i * 21 + j]? = (cells L)[i * 21 + j]? := by rw [← htk, List.getElem?_take, if_pos hlt]
    obtain ⟨y, h1, h2⟩ := cells_get L (i * 21 + j) hlt
    rw [show (i * 21 + j) / 21 = i by omega] at h1
    obtain rfl := Option.some.inj (hx.symm.trans h1)
    rw [e, h2, show (i * 21 + j) % 21 = j by omega]
    exact hu
theorem own_Ls {w : World} {base n : Nat} {v : Value} {L : List Lb} (h : w.ownsRow base 29 21 v n (cells L)) : Ls v L w := by
  obtain ⟨-, ⟨h1, h2⟩ | ⟨g, cap, h1, -, h3, h4, h5, h6⟩⟩ := own_ls h
  · exact .inl ⟨h1, none, 0, h2, Nat.zero_le _, fun _ => rfl⟩
  · exact .inr ⟨g, 0, cap, h1, h4, h5, h3, h6⟩
def apL (ty : Nat) (vs : Array Value) : Sem Value := Builtin.append_ #[22, 22] ty vs
theorem toAp (ty : Nat) (vs : Array Value) : Builtin.append_ #[22, 22] ty vs = apL ty vs := rfl
theorem grown_below {w w' : World} {base n s e : Nat} {v : Value} {xs : List Value} (ho : w.ownsRow base e s v n xs) (hB : base ≤ w.heap.size) (hg : w.grownBy w' v.ownBlock) : Below base w w' :=
  ⟨hg.os, hg.tape, hg.output, hg.size, fun j hj => hg.block j (by omega) (fun h => by have := (ho.lt j h.symm).1; omega)⟩
/-- Labels appended to a list that is owned. -/
theorem run_apS (w : World) (base n ty : Nat) (v sv : Value) (L E : List Lb) (ho : w.ownsRow base 29 21 v n (cells L)) (hs : Ls sv E w) (hb : n + E.length ≤ 1099511627776) (hB : base ≤ w.heap.size) :
    ∃ v' w', (apL ty #[v, sv]).run Try.prog w = .ok v' w' ∧ w'.ownsRow base 29 21 v' (n + E.length) (cells (L ++ E)) ∧ Below base w w' := by
  obtain ⟨i0, hi0, hz0, hz1, hz2⟩ := info_parts info29
  rcases hs with ⟨rfl, o, c, rfl, hcm, h0⟩ | ⟨b, off, cap, rfl, h1, h2, h3, h4⟩
  · cases o with
    | none =>
      obtain rfl := h0 rfl
      exact ⟨v, w, run_append_owned_none (P := Try.prog) w base 22 ty 29 i0 21 Try.underlying22 hi0 v n _ ho, by simpa using ho, Below.refl _ _⟩
    | some a =>
      obtain ⟨v', w', hr, ho2, hg, _⟩ := run_append_own (P := Try.prog) w base 22 ty 29 i0 _ 21 40 Try.underlying22 hi0 hz0 hz1 hz2 (lab_size z20 ⟨#[]⟩ rfl) (by omega) v n _ ho a 0 c [] rfl (fun j u hu => by simp at hu) (fun u hu => by simp at hu) (by unfold maxLen; omega) (by omega) hB
      exact ⟨v', w', hr, by simpa using ho2, grown_below ho hB hg⟩
  · obtain ⟨v', w', hr, ho2, hg, _⟩ := run_append_own (P := Try.prog) w base 22 ty 29 i0 _ 21 40 Try.underlying22 hi0 hz0 hz1 hz2 (lab_size z20 ⟨#[]⟩ rfl) (by omega) v n _ ho ⟨b, off, none⟩ E.length cap (cells E) (cells_len E) (lr_cells h4) (cells_one E) (by unfold maxLen; omega) (by omega) hB
    refine ⟨v', w', hr, ?_, grown_below ho hB hg⟩
    rw [cells_app]
    exact ho2
theorem below_setRow {B g : Nat} {a w : World} (h : Below B a w) (hg : B ≤ g) (cs : Array Value) : Below B a (w.setRow g cs) :=
  ⟨h.os, h.tape, h.output, by simpa using h.size, fun j hj => (setRow_other _ _ _ _ (by omega)).trans (h.block j hj)⟩
theorem own_below {W W' : World} {B n : Nat} {v : Value} {xs : List Value} (h : W.ownsRow B 29 21 v n xs) (hb : Below W.heap.size W W') : W'.ownsRow B 29 21 v n xs := by
  obtain ⟨k1, k2⟩ := h
  exact ⟨k1, k2.imp_right fun ⟨g, cap, cur, q1, q2, q3, q4⟩ => ⟨g, cap, cur, q1, q2, (hb.block g (Array.getElem?_eq_some_iff.1 q3).1).trans q3, q4⟩⟩
theorem lr_row {g : Nat} {L : List Lb} {C : Array Value} {t : TypeId} {fr : Nat × Nat} {w : World} (h : w.heap[g]? = some (.cells C t fr)) (hC : C.toList = cells L) : Lr g 0 L w := fun i x hx j u hu => by
  have hi := (List.getElem?_eq_some_iff.1 hx).1
  have hj : j < 21 := by have := (List.getElem?_eq_some_iff.1 hu).1; rwa [enc_len] at this
  have hlt : i * 21 + j < L.length * 21 := by omega
  rw [Nat.zero_add, cell_of_row w _ _ _ _ _ h, ← Array.getElem?_toList, hC]
  obtain ⟨y, h1, h2⟩ := cells_get L (i * 21 + j) hlt
  rw [show (i * 21 + j) / 21 = i by omega] at h1
  obtain rfl := Option.some.inj (hx.symm.trans h1)
  rw [h2, show (i * 21 + j) % 21 = j by omega]
  exact hu
def mkH : List Nat := [7, 0, 0, 0, 0, 0, 0, 0, 0, 0, 0, 0, 0, 0, 0, 0, 0, 0, 0, 0]
def mkS : ByteArray := ⟨#[109, 97, 114, 107]⟩
/-- The mark. -/
def mk : Lb := ⟨mkH, mkS, rfl⟩
def buildH (ps : Array (Nat × Value)) : Sem Value := Instr.build 27 ps
theorem toBuildH (ps : Array (Nat × Value)) : Instr.build 27 ps = buildH ps := rfl
def buildR (ps : Array (Nat × Value)) : Sem Value := Instr.build 29 ps
theorem toBuild (ps : Array (Nat × Value)) : Instr.build 29 ps = buildR ps := rfl
set_option maxRecDepth 100000 in
theorem run_buildM (w : World) : (buildH #[(0, .int .u8 7)]).run Try.prog w = .ok (.agg (bs mkH)) w := run_build w 27 _ _ (by kernel_rfl)
set_option maxRecDepth 100000 in
theorem run_buildL (w : World) : (buildR #[(0, .agg (bs mkH)), (1, .string ⟨#[109, 97, 114, 107]⟩)]).run Try.prog w = .ok (.agg (lab mkH mkS)) w := run_build w 29 _ _ (by kernel_rfl)
theorem lab_one (h : List Nat) (s : ByteArray) : (lab h s).all (·.oneCell') = true := by
  simp [lab, bs, Value.oneCell']
theorem run_storeR25 (w : World) (g : Nat) (h k : List Nat) (s t : ByteArray) (hg : w.heap[g]? = some (.cells (lab h s) 29 (0, 0))) (h1 : h.length = 20) (h2 : k.length = 20) : (storeR 29 (.pointer (some ⟨g, 0, none⟩)) (.agg (lab k t))).run Try.prog w = .ok () (w.setRow g (lab k t)) := by
  unfold storeR
  simp only [Instr.storeAt, Instr.sureAddr, Sem.run_bind, Sem.run_pure, Result.andThen_ok, run_storeVar_row w g 29 29 (lab h s) (lab k t) hg (by rw [size25, lab_size k t h2]) (by rw [lab_size k t h2, lab_size h s h1]) (lab_one _ _)]
attribute [local go_sem ↓] toBuildH toBuild toSt
set_option maxRecDepth 100000 in
theorem mark_any (w : World) : Calls Try.prog 9 #[] w fun e w' => e = .returned (.agg (lab mkH mkS)) ∧ Below w.heap.size w w' := by
  have hM := run_buildM
  have hL := run_buildL
  have st : (storeR 29 (.pointer (some ⟨w.heap.size, 0, none⟩)) (.agg (lab mkH mkS))).run Try.prog (w.alloc (.cells #[.int .u8 0, .int .u8 0, .int .u8 0, .int .u8 0, .int .u8 0, .int .u8 0, .int .u8 0, .int .u8 0, .int .u8 0, .int .u8 0, .int .u8 0, .int .u8 0, .int .u8 0, .int .u8 0, .int .u8 0, .int .u8 0, .int .u8 0, .int .u8 0, .int .u8 0, .int .u8 0, .string ⟨#[]⟩] 29)) = .ok () ((w.alloc (.cells (lab z20 ⟨#[]⟩) 29)).setRow w.heap.size (lab mkH mkS)) := run_storeR25 (w.alloc (.cells (lab z20 ⟨#[]⟩) 29)) w.heap.size z20 mkH ⟨#[]⟩ mkS (heap_alloc_new _ _) rfl rfl
  have HR : Hid (((w.alloc (.cells (lab z20 ⟨#[]⟩) 29)).setRow w.heap.size (lab mkH mkS)).heap[w.heap.size]? = some (.cells (lab mkH mkS) 29 (0, 0))) := setRow_heap _ _ _ _ _ _ (heap_alloc_new _ _)
  have HB : Hid (Below w.heap.size w ((w.alloc (.cells (lab z20 ⟨#[]⟩) 29)).setRow w.heap.size (lab mkH mkS))) := below_setRow ((Below.refl _ w).alloc (Nat.le_refl _) _) (Nat.le_refl _) _
  go_enter Try.func9, Try.ntmps9
  go_wp2_with fail
  exact bodyPost_ret (v := .agg (lab mkH mkS)) (results_cell_row rfl _ _ w.heap.size 29 _ (0, 0) _ rfl HR.out under25 rfl (by rw [size25, lab_size mkH mkS rfl])) rfl ⟨rfl, HB.out⟩
def bsR (ps : Array (Nat × Value)) : Sem Value := Instr.buildSlice 22 2 ps
theorem toBs (ps : Array (Nat × Value)) : Instr.buildSlice 22 2 ps = bsR ps := rfl
set_option maxRecDepth 100000 in
theorem run_bs2 (w : World) : ∃ C : Array Value, C.toList = enc mk ++ enc mk ∧ (bsR #[(0, .agg (lab mkH mkS)), (1, .agg (lab mkH mkS))]).run Try.prog w = .ok (.slice (some ⟨w.heap.size, 0, none⟩) 2 2) (w.alloc (.cells C 29)) := by
  refine ⟨lab mkH mkS ++ lab mkH mkS, rfl, ?_⟩
  unfold bsR
  kernel_rfl
attribute [local go_sem ↓] toAp toBs
set_option maxRecDepth 100000 in
set_option maxHeartbeats 1000000 in
theorem roomy_any (L : List Lb) (hn : L.length ≤ 1073741824) (v : Value) (w : World) (hv : Ls v L w) :
    Calls Try.prog 4 #[v] w fun e w' => ∃ u, e = .returned u ∧ w'.ownsRow w.heap.size 29 21 u (L.length + 2) (cells (L ++ [mk, mk])) ∧ Below w.heap.size w w' := by
  obtain ⟨u, W1, r1, o1, b1⟩ := run_apS w w.heap.size 0 22 (.slice none 0 0) v [] L (by rw [cells_nil]; exact World.ownsRow_nil _ _ _ _) hv (by omega) (Nat.le_refl _)
  rw [Nat.zero_add, List.nil_append] at o1
  have HO1 : Hid (W1.ownsRow w.heap.size 29 21 u L.length (cells L)) := o1
  have HB1 : Hid (Below w.heap.size w W1) := b1
  have CM : Hid (∀ W, Calls Try.prog 9 #[] W fun e w' => e = .returned (.agg (lab mkH mkS)) ∧ Below W.heap.size W w') := fun W => mark_any W
  clear o1 b1
  go_enter Try.func4, Try.ntmps4
  go_wp2_with fail
  refine Calls.mono (CM.out _) ?_
  rintro e W2 ⟨rfl, b2⟩
  have HB2 : Hid (Below W1.heap.size W1 W2) := b2
  clear b2
  go_wp2_with fail
  refine Calls.mono (CM.out _) ?_
  rintro e W3 ⟨rfl, b3⟩
  have HB3 : Hid (Below W1.heap.size W1 W3) := HB2.out.trans (b3.mono HB2.out.size)
  clear b3 HB2 r1
  obtain ⟨C, hC, rb⟩ := run_bs2 W3
  have hC2 : C.toList = cells [mk, mk] := by rw [hC, show [mk, mk] = [mk] ++ [mk] from rfl, cells_app, cells_single]
  have hrow : (W3.alloc (.cells C 29)).heap[W3.heap.size]? = some (.cells C 29 (0, 0)) := heap_alloc_new _ _
  have hls : Ls (.slice (some ⟨W3.heap.size, 0, none⟩) 2 2) [mk, mk] (W3.alloc (.cells C 29)) := .inr ⟨W3.heap.size, 0, 2, rfl, Nat.le_refl _, by unfold maxLen; omega, (Array.getElem?_eq_some_iff.1 hrow).1, lr_row hrow hC2⟩
  have b4 : Below W1.heap.size W1 (W3.alloc (.cells C 29)) := HB3.out.alloc HB3.out.size _
  have s1 := HB1.out.size
  obtain ⟨u', W4, r4, o4, b5⟩ := run_apS (W3.alloc (.cells C 29)) w.heap.size L.length 22 u _ L [mk, mk] (own_below HO1.out b4) hls (by show L.length + 2 ≤ _; omega) (by have := b4.size; omega)
  have HF : Hid (W4.ownsRow w.heap.size 29 21 u' (L.length + 2) (cells (L ++ [mk, mk])) ∧ Below w.heap.size w W4) := ⟨o4, (HB1.out.trans (b4.mono s1)).trans b5⟩
  clear hC hC2 hrow hls b4 o4 b5 HB3 HB1 HO1
  go_wp2_with fail
  go_ret
  exact ⟨_, rfl, HF.out⟩
end Go.Proofs.Ytjbomhihhgblbaa
