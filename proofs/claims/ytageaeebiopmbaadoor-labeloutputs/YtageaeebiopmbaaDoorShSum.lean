import Derived.Test.YtageaeebiopmbaaDoorShPadE
namespace Go.Proofs.YtageaeebiopmbaaDoor.Sha
open Go.RowKit
def padN (ks st rest : List Nat) (n : Nat) : List Nat :=
  if n % 64 < 56 then mixN ks st (lenk (padR rest (n % 64)) n 8) else mixN ks (mixN ks st (padR rest (n % 64))) (lenk (List.replicate 64 0) n 8)
set_option maxRecDepth 100000 in
theorem pad_any (ks : List Nat) (hm : MixOK ks) (g : Nat) (st rest : List Nat) (n : Nat) (hst : st.length = 8) (hrs : rest.length = 64) (hn : n ≤ 1152921504606846976) (hsw : Wrd st) (hrb : Byt rest) (w : World) (hg : g ≠ 4) (hgl : g < w.heap.size) (hg1 : 4 < w.heap.size)
    (hK : Hid (∀ j, j < 64 → w.cell? ⟨4, j, none⟩ = some (.int .u32 ((ks.getD j 0 : Nat) : Int)))) (hh : Hid (w.heap[g]? = some (.cells (hs st rest n) 78 (0, 0)))) :
    Calls Tryd.prog 41 #[.pointer (some ⟨g, 0, none⟩)] w fun e w' => e = .returned (.tuple #[]) ∧ (∃ r, r.length = 64 ∧ Hid (w'.heap[g]? = some (.cells (hs (padN ks st rest n) r n) 78 (0, 0)))) ∧ Touch g w w' := by
  have hlen : ∀ r : List Nat, r.length = 64 → (lenk r n 8).length = 64 := fun r h => by rw [lenk_len, h]
  by_cases h1 : n % 64 < 56
  · refine (pad_short ks hm g st rest n hst hrs hn hsw hrb w hg hgl hg1 hK hh h1).mono ?_
    rintro e w' ⟨he, hr, ht⟩
    refine ⟨he, ⟨lenk (padR rest (n % 64)) n 8, hlen _ (padR_len _ _ hrs (by omega)), ?_⟩, ht⟩
    unfold padN
    rw [if_pos h1]
    exact hr
  · have hp : padN ks st rest n = mixN ks (mixN ks st (padR rest (n % 64))) (lenk (List.replicate 64 0) n 8) := by unfold padN; rw [if_neg h1]
    by_cases h2 : n % 64 < 63
    · refine (pad_long ks hm g st rest n hst hrs hn hsw hrb w hg hgl hg1 hK hh (by omega) h2).mono ?_
      rintro e w' ⟨he, hr, ht⟩
      refine ⟨he, ⟨lenk (List.replicate 64 0) n 8, hlen _ (by rw [List.length_replicate]), ?_⟩, ht⟩
      rw [hp]
      exact hr
    · refine (pad_last ks hm g st rest n hst hrs hn hsw hrb w hg hgl hg1 hK hh (by omega)).mono ?_
      rintro e w' ⟨he, hr, ht⟩
      refine ⟨he, ⟨lenk (List.replicate 64 0) n 8, hlen _ (by rw [List.length_replicate]), ?_⟩, ht⟩
      rw [hp]
      exact hr
set_option maxRecDepth 100000 in
theorem padN_len (ks st rest : List Nat) (n : Nat) : (padN ks st rest n).length = 8 := by unfold padN; split <;> rfl
set_option maxRecDepth 100000 in
theorem padN_wrd (ks st rest : List Nat) (n : Nat) : Wrd (padN ks st rest n) := by unfold padN; split <;> exact mixN_wrd _ _ _
/-- The state that counts: the first one, where nothing was taken. -/
def begS (sn st : List Nat) (n : Nat) : List Nat := if n = 0 then sn else st
set_option maxRecDepth 100000 in
theorem begin_any (g : Nat) (sn st rest : List Nat) (n : Nat) (hsn : sn.length = 8) (hst : st.length = 8) (hrs : rest.length = 64) (w : World) (hS : Hid (∀ j, j < 8 → w.cell? ⟨3, j, none⟩ = some (.int .u32 ((sn.getD j 0 : Nat) : Int)))) (hh : Hid (w.heap[g]? = some (.cells (hs st rest n) 78 (0, 0)))) :
    Calls Tryd.prog 39 #[.pointer (some ⟨g, 0, none⟩)] w fun e w' => e = .returned (.tuple #[]) ∧ Hid (w'.heap[g]? = some (.cells (hs (begS sn st n) rest n) 78 (0, 0))) ∧ Touch g w w' := by
  by_cases h0 : n = 0
  · subst h0
    obtain ⟨a, b, c, d, e, f, i, j, rfl⟩ := eight sn hsn
    exact begin_new g st rest hst hrs a b c d e f i j w hh (hS.out 0 (by decide)) (hS.out 1 (by decide)) (hS.out 2 (by decide)) (hS.out 3 (by decide)) (hS.out 4 (by decide)) (hS.out 5 (by decide)) (hS.out 6 (by decide)) (hS.out 7 (by decide))
  · refine (begin_go g st rest n hst hrs (by omega) w hh).mono fun e w' ⟨he, hw⟩ => ?_
    subst hw
    refine ⟨he, ?_, Touch.refl _ _⟩
    unfold begS
    rw [if_neg h0]
    exact hh
attribute [local go_sem] zero43
set_option maxRecDepth 100000 in
set_option maxHeartbeats 1000000 in
theorem sum_of (ks sn : List Nat) (hm : MixOK ks) (hsn : sn.length = 8) (hsnw : Wrd sn) (g : Nat) (st rest : List Nat) (n : Nat) (hst : st.length = 8) (hrs : rest.length = 64) (hn : n ≤ 1152921504606846976) (hsw : Wrd st) (hrb : Byt rest) (w : World) (hg1 : 4 < w.heap.size)
    (hS : Hid (∀ j, j < 8 → w.cell? ⟨3, j, none⟩ = some (.int .u32 ((sn.getD j 0 : Nat) : Int)))) (hK : Hid (∀ j, j < 64 → w.cell? ⟨4, j, none⟩ = some (.int .u32 ((ks.getD j 0 : Nat) : Int)))) (hh : Hid (w.heap[g]? = some (.cells (hs st rest n) 78 (0, 0)))) :
    Calls Tryd.prog 30 #[.pointer (some ⟨g, 0, none⟩)] w fun e w' => e = .returned (.agg (bs (sumS (padN ks (begS sn st n) rest n)))) ∧ Below w.heap.size w w' := by
  have hz' : (hs st rest n).size = 73 := hs_size _ _ _ hst hrs
  have hgl : g < w.heap.size := (Array.getElem?_eq_some_iff.1 hh.out).1
  go_enter Tryd.func30, Tryd.ntmps30
  go_wp2_with (first
    | refine wpList_load_row rfl 78 _ rfl _ rfl 78 _ (0, 0) _ (by exact (heap_alloc_old _ _ (h := hgl)).trans hh.out) Tryd.underlying78 rfl (by rw [size43, hz']) ?_
    | refine wpList_store_row rfl 78 _ _ rfl _ _ rfl rfl 78 _ (by exact alloc_at _ _ _ (by simp)) (by rw [size43, hz']) (by rw [hz']; rfl) (hs_one _ _ _) ?_
    | fail)
  try rw [zc76]
  generalize hW : ((w.alloc (Obj.cells _ 23)).alloc (Obj.cells hz 78)).setRow (w.heap.size + 1) (hs st rest n) = W1
  have rowR : Hid (W1.heap[w.heap.size]? = some (.cells (bs z32) 23 (0, 0))) := by rw [← hW]; exact (setRow_other _ _ _ _ (by omega)).trans (heap_alloc2_old _ _ _)
  have row1 : Hid (W1.heap[w.heap.size + 1]? = some (.cells (hs st rest n) 78 (0, 0))) := by rw [← hW]; exact setRow_heap _ _ _ _ _ _ (heap_alloc2_new _ _ _)
  have bel1 : Below w.heap.size w W1 := by rw [← hW]; exact below_setRow (((Below.refl _ _).alloc (Nat.le_refl _) _).alloc (by simp) _) (by omega) _
  have hs1 : w.heap.size + 2 = W1.heap.size := by rw [← hW]; simp
  clear hW
  have hs1' : w.heap.size + 1 < W1.heap.size := by omega
  clear hs1
  refine (begin_any (w.heap.size + 1) sn st rest n hsn hst hrs W1 (fun j hj => (bel1.cell (by simp; omega)).trans (hS.out j hj)) row1).mono ?_
  rintro e W2 ⟨rfl, row2, tch2⟩
  have bl : (begS sn st n).length = 8 := by unfold begS; split <;> assumption
  have bw : Wrd (begS sn st n) := by unfold begS; split <;> assumption
  go_wp2_with fail
  have hs2 : w.heap.size + 1 < W2.heap.size := Nat.lt_of_lt_of_le hs1' tch2.size
  refine (pad_any ks hm (w.heap.size + 1) (begS sn st n) rest n bl hrs hn bw hrb W2 (by omega) hs2 (by omega) (fun j hj => (World.cell?_of_block (w := W1) (tch2.block 4 (by omega) (by omega))).trans ((bel1.cell (by simpa using hg1)).trans (hK.out j hj))) row2).mono ?_
  rintro e W3 ⟨rfl, ⟨r, hrl, row3⟩, tch3⟩
  obtain ⟨p0, p1, p2, p3, p4, p5, p6, p7, hp⟩ := eight (padN ks (begS sn st n) rest n) (padN_len _ _ _ _)
  have hpw : Wrd [p0, p1, p2, p3, p4, p5, p6, p7] := by rw [← hp]; exact padN_wrd _ _ _ _
  have HP : Hid (padN ks (begS sn st n) rest n = [p0, p1, p2, p3, p4, p5, p6, p7]) := hp
  rw [hp] at row3
  clear hp
  have c0 : W3.cell? ⟨w.heap.size + 1, 0, none⟩ = some (.int .u32 (p0 : Int)) := by rw [cell_of_row W3 _ _ _ _ _ row3.out, hs_state _ _ _ rfl 0 (by decide)]; rfl
  have c1 : W3.cell? ⟨w.heap.size + 1, 1, none⟩ = some (.int .u32 (p1 : Int)) := by rw [cell_of_row W3 _ _ _ _ _ row3.out, hs_state _ _ _ rfl 1 (by decide)]; rfl
  have c2 : W3.cell? ⟨w.heap.size + 1, 2, none⟩ = some (.int .u32 (p2 : Int)) := by rw [cell_of_row W3 _ _ _ _ _ row3.out, hs_state _ _ _ rfl 2 (by decide)]; rfl
  have c3 : W3.cell? ⟨w.heap.size + 1, 3, none⟩ = some (.int .u32 (p3 : Int)) := by rw [cell_of_row W3 _ _ _ _ _ row3.out, hs_state _ _ _ rfl 3 (by decide)]; rfl
  have c4 : W3.cell? ⟨w.heap.size + 1, 4, none⟩ = some (.int .u32 (p4 : Int)) := by rw [cell_of_row W3 _ _ _ _ _ row3.out, hs_state _ _ _ rfl 4 (by decide)]; rfl
  have c5 : W3.cell? ⟨w.heap.size + 1, 5, none⟩ = some (.int .u32 (p5 : Int)) := by rw [cell_of_row W3 _ _ _ _ _ row3.out, hs_state _ _ _ rfl 5 (by decide)]; rfl
  have c6 : W3.cell? ⟨w.heap.size + 1, 6, none⟩ = some (.int .u32 (p6 : Int)) := by rw [cell_of_row W3 _ _ _ _ _ row3.out, hs_state _ _ _ rfl 6 (by decide)]; rfl
  have c7 : W3.cell? ⟨w.heap.size + 1, 7, none⟩ = some (.int .u32 (p7 : Int)) := by rw [cell_of_row W3 _ _ _ _ _ row3.out, hs_state _ _ _ rfl 7 (by decide)]; rfl
  go_wp2_with fail
  refine (sum_any [p0, p1, p2, p3, p4, p5, p6, p7] rfl hpw _).mono ?_
  rintro e W4 ⟨rfl, bel4⟩
  have hs3 : w.heap.size + 1 < W3.heap.size := Nat.lt_of_lt_of_le hs2 tch3.size
  have rowR4 : Hid (W4.heap[w.heap.size]? = some (.cells (bs z32) 23 (0, 0))) := (bel4.block _ (by omega)).trans ((tch3.block _ (by omega) (by omega)).trans ((tch2.block _ (by omega) (by omega)).trans rowR.out))
  have sl := sumS_len [p0, p1, p2, p3, p4, p5, p6, p7]
  go_wp2_with (refine wpList_store_row rfl 23 _ _ rfl _ _ rfl rfl 23 _ (by exact rowR4.out) (by rw [size28, bs_size, sl]) (by rw [bs_size, bs_size, sl]; rfl) (bs_one _) ?_)
  have hres : (W4.setRow w.heap.size (bs (sumS [p0, p1, p2, p3, p4, p5, p6, p7]))).heap[w.heap.size]? = some (.cells (bs (sumS [p0, p1, p2, p3, p4, p5, p6, p7])) 23 (0, 0)) := setRow_heap _ _ _ _ _ _ rowR4.out
  refine bodyPost_ret (v := .agg (bs (sumS [p0, p1, p2, p3, p4, p5, p6, p7]))) (results_cell_row rfl _ _ w.heap.size 23 _ (0, 0) _ rfl hres Tryd.underlying23 rfl (by rw [size28, bs_size, sl])) rfl ⟨?_, ?_⟩
  · rw [HP.out]
  · exact below_setRow ((bel1.trans ((tch2.trans tch3).below (by omega) (by omega))).trans (bel4.mono (by omega))) (Nat.le_refl _) _
end Go.Proofs.YtageaeebiopmbaaDoor.Sha
