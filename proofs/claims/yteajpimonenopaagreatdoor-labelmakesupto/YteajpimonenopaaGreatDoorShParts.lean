import Derived.Test.YteajpimonenopaaGreatDoorShTook
namespace Go.Proofs.YteajpimonenopaaGreatDoor.Sha
open Go.RowKit
/-- The sum of a message. -/
def shaN (ks sn m : List Nat) : List Nat := sumS (padN ks (absN ks sn m (m.length / 64)) (m.drop (64 * (m.length / 64))) m.length)
set_option maxRecDepth 100000 in
theorem shaN_len (ks sn m : List Nat) : (shaN ks sn m).length = 32 := sumS_len _
set_option maxRecDepth 100000 in
theorem padR_take {a b : List Nat} {u : Nat} (h : a.take u = b.take u) : padR a u = padR b u := by unfold padR; rw [h]
set_option maxRecDepth 100000 in
theorem padN_take (ks st a b : List Nat) (n : Nat) (h : a.take (n % 64) = b.take (n % 64)) : padN ks st a n = padN ks st b n := by
  unfold padN; rw [padR_take h]
set_option maxRecDepth 100000 in
theorem sum_took (ks sn : List Nat) (hm : MixOK ks) (hsn : sn.length = 8) (hsnw : Wrd sn) (g : Nat) (m : List Nat) (hn : m.length ≤ 1152921504606846976) (w : World) (hg1 : 5 < w.heap.size)
    (hS : Hid (∀ j, j < 8 → w.cell? ⟨4, j, none⟩ = some (.int .u32 ((sn.getD j 0 : Nat) : Int)))) (hK : Hid (∀ j, j < 64 → w.cell? ⟨5, j, none⟩ = some (.int .u32 ((ks.getD j 0 : Nat) : Int)))) (hT : Took ks sn m g w) :
    Calls Tryz.prog 38 #[.pointer (some ⟨g, 0, none⟩)] w fun e w' => e = .returned (.agg (bs (shaN ks sn m))) ∧ Below w.heap.size w w' := by
  obtain ⟨st, rest, hst, hrs, hsw, hrb, hh, hbeg, hrt⟩ := hT
  refine (sum_of ks sn hm hsn hsnw g st rest m.length hst hrs hn hsw hrb w hg1 hS hK hh).mono fun e w' ⟨he, hb⟩ => ⟨?_, hb⟩
  rw [he, hbeg, shaN, padN_take ks _ rest (m.drop (64 * (m.length / 64))) m.length]
  rw [hrt, List.take_of_length_le (by rw [List.length_drop]; omega)]
set_option maxRecDepth 100000 in
theorem took_zero (ks sn : List Nat) (g : Nat) (w : World) (h : w.heap[g]? = some (.cells hz 66 (0, 0))) : Took ks sn [] g w :=
  ⟨List.replicate 8 0, List.replicate 64 0, by simp, by simp, fun x hx => by rw [List.eq_of_mem_replicate hx]; decide, fun x hx => by rw [List.eq_of_mem_replicate hx]; decide, h, rfl, rfl⟩
set_option maxRecDepth 100000 in
theorem Took.keep {ks sn m : List Nat} {g : Nat} {w w' : World} (h : Took ks sn m g w) (hb : w'.heap[g]? = w.heap[g]?) : Took ks sn m g w' := by
  obtain ⟨st, rest, h1, h2, h3, h4, h5, h6⟩ := h
  exact ⟨st, rest, h1, h2, h3, h4, hb.trans h5, h6⟩
set_option maxRecDepth 100000 in
theorem Took.lt {ks sn m : List Nat} {g : Nat} {w : World} (h : Took ks sn m g w) : g < w.heap.size := by
  obtain ⟨st, rest, _, _, _, _, h5, _⟩ := h
  exact (Array.getElem?_eq_some_iff.1 h5).1
set_option maxRecDepth 100000 in
theorem Bts.keep {g : Nat} {v : Value} {d : List Nat} {w w' : World} (h : Bts g v d w) (hs : w.heap.size ≤ w'.heap.size) (hb : ∀ j, j < w.heap.size → j ≠ g → w'.heap[j]? = w.heap[j]?) : Bts g v d w' := by
  rcases h with h | ⟨b, off, cap, h1, h2, h3, h4, h5, h6⟩
  · exact .inl h
  · exact .inr ⟨b, off, cap, h1, h2, h3, h4, by omega, fun j hj => (World.cell?_of_block (w := w) (hb b h5 h4)).trans (h6 j hj)⟩
/-- A slice of bytes. -/
def Byl (v : Value) (d : List Nat) (w : World) : Prop :=
  (v = .slice none 0 0 ∧ d = []) ∨ ∃ b off cap, v = .slice (some ⟨b, off, none⟩) d.length cap ∧ d.length ≤ cap ∧ cap ≤ maxLen ∧ b < w.heap.size ∧ ∀ j, j < d.length → w.cell? ⟨b, off + j, none⟩ = some (.int .u8 ((d.getD j 0 : Nat) : Int))
set_option maxRecDepth 100000 in
theorem Byl.bts {v : Value} {d : List Nat} {w w' : World} (h : Byl v d w) (g : Nat) (hg : w.heap.size ≤ g) (hs : w.heap.size ≤ w'.heap.size) (hb : ∀ j, j < w.heap.size → w'.heap[j]? = w.heap[j]?) : Bts g v d w' := by
  rcases h with h | ⟨b, off, cap, h1, h2, h3, h5, h6⟩
  · exact .inl h
  · exact .inr ⟨b, off, cap, h1, h2, h3, by omega, by omega, fun j hj => (World.cell?_of_block (w := w) (hb b h5)).trans (h6 j hj)⟩
set_option maxRecDepth 100000 in
theorem Byl.keep {v : Value} {d : List Nat} {w w' : World} (h : Byl v d w) (hs : w.heap.size ≤ w'.heap.size) (hb : ∀ j, j < w.heap.size → w'.heap[j]? = w.heap[j]?) : Byl v d w' := by
  rcases h with h | ⟨b, off, cap, h1, h2, h3, h5, h6⟩
  · exact .inl h
  · exact .inr ⟨b, off, cap, h1, h2, h3, by omega, fun j hj => (World.cell?_of_block (w := w) (hb b h5)).trans (h6 j hj)⟩
set_option maxRecDepth 100000 in
theorem sum_flat_le (ds : List (List Nat)) (k : Nat) : (ds.take k).flatten.length ≤ ds.flatten.length := by
  conv => rhs; rw [← List.take_append_drop k ds, List.flatten_append, List.length_append]
  omega
set_option maxRecDepth 100000 in
theorem take_flat (ds : List (List Nat)) (k : Nat) (h : k < ds.length) : (ds.take (k + 1)).flatten = (ds.take k).flatten ++ ds[k] := by
  rw [List.take_succ_eq_append_getElem h, List.flatten_append]
  simp
attribute [local go_sem] zero43
set_option maxRecDepth 100000 in
set_option maxHeartbeats 1000000 in
/-- sumOfParts. -/
theorem parts_any (ks sn : List Nat) (hm : MixOK ks) (hsn : sn.length = 8) (hsnw : Wrd sn) (ds : List (List Nat)) (vs : List Value) (hvl : vs.length = ds.length) (hn : ds.flatten.length ≤ 1152921504606846976) (hdb : ∀ d ∈ ds, Byt d)
    (p cap : Nat) (hk : ds.length ≤ cap) (hcm : cap ≤ maxLen) (w : World) (hpl : p < w.heap.size) (hg1 : 5 < w.heap.size)
    (hP : Hid (∀ j (h : j < vs.length), w.cell? ⟨p, j, none⟩ = some (vs[j]'h))) (hB : Hid (∀ j (h1 : j < vs.length) (h2 : j < ds.length), Byl (vs[j]'h1) (ds[j]'h2) w))
    (hS : Hid (∀ j, j < 8 → w.cell? ⟨4, j, none⟩ = some (.int .u32 ((sn.getD j 0 : Nat) : Int)))) (hK : Hid (∀ j, j < 64 → w.cell? ⟨5, j, none⟩ = some (.int .u32 ((ks.getD j 0 : Nat) : Int)))) :
    Calls Tryz.prog 28 #[.slice (some ⟨p, 0, none⟩) ds.length cap] w fun e w' => e = .returned (.agg (bs (shaN ks sn ds.flatten))) ∧ Below w.heap.size w w' := by
  unfold maxLen at hcm
  go_enter Tryz.func28, Tryz.ntmps28
  go_wp2_with fail
  try rw [zc76]
  generalize hW : (w.alloc (Obj.cells _ 24)).alloc (Obj.cells hz 66) = W0
  have rowR : Hid (W0.heap[w.heap.size]? = some (.cells (bs z32) 24 (0, 0))) := by rw [← hW]; exact heap_alloc2_old _ _ _
  have took0 : Took ks sn [] (w.heap.size + 1) W0 := took_zero _ _ _ _ (by rw [← hW]; exact heap_alloc2_new _ _ _)
  have bel0 : Below w.heap.size w W0 := by rw [← hW]; exact ((Below.refl _ w).alloc (Nat.le_refl _) _).alloc (by simp) _
  have hs0 : W0.heap.size = w.heap.size + 2 := by rw [← hW]; simp
  clear hW
  have HS0 : Hid (W0.heap.size = w.heap.size + 2) := hs0
  clear hs0
  go_loopw [8] (fun i wr => ∃ k : Nat, i = .int .i64 (k : Int) ∧ k ≤ ds.length ∧ Hid (Took ks sn (ds.take k).flatten (w.heap.size + 1) wr) ∧ Touch (w.heap.size + 1) W0 wr) (fun i _ => ds.length - (intOf i).toNat)
  case atStart => exact ⟨0, rfl, by omega, (by rw [List.take_zero]; exact took0 : Took ks sn (ds.take 0).flatten (w.heap.size + 1) W0), Touch.refl _ _⟩
  case round =>
    clear took0
    obtain ⟨k, rfl, hk', HT, tch⟩ := hrel
    have hsz := tch.size
    have HSZ : Hid (w.heap.size + 2 ≤ wr.heap.size) := by have := HS0.out; show _ ≤ _; omega
    clear hsz
    have hold : Hid (∀ j, j < w.heap.size → wr.heap[j]? = w.heap[j]?) := fun j hj => (tch.block j (by have := HS0.out; omega) (by omega)).trans (bel0.block j hj)
    have hS' : Hid (∀ j, j < 8 → wr.cell? ⟨4, j, none⟩ = some (.int .u32 ((sn.getD j 0 : Nat) : Int))) := fun j hj => (World.cell?_of_block (w := w) (hold.out 4 (by omega))).trans (hS.out j hj)
    have hK' : Hid (∀ j, j < 64 → wr.cell? ⟨5, j, none⟩ = some (.int .u32 ((ks.getD j 0 : Nat) : Int))) := fun j hj => (World.cell?_of_block (w := w) (hold.out 5 hg1)).trans (hK.out j hj)
    by_cases hlt : k < ds.length
    · have hlt' : (k : Int) < (ds.length : Int) := by omega
      have hk0 : (0 : Int) ≤ (k : Int) := by omega
      have hkn : (k : Int).toNat = k := by omega
      obtain ⟨v, hv⟩ : ∃ v, v = vs[k]'(by omega) := ⟨_, rfl⟩
      obtain ⟨d, hd⟩ : ∃ d, d = ds[k]'hlt := ⟨_, rfl⟩
      have cv : wr.cell? ⟨p, k, none⟩ = some v := by rw [hv]; exact (World.cell?_of_block (w := w) (hold.out p hpl)).trans (hP.out k (by omega))
      have hby : Byl v d w := by rw [hv, hd]; exact hB.out k (by omega) hlt
      have hbt : Bts (w.heap.size + 1) v d wr := hby.bts _ (by omega) (by have := HSZ.out; omega) hold.out
      have hlen : (ds.take k).flatten.length + d.length ≤ 1152921504606846976 := by
        have h1 := sum_flat_le ds (k + 1)
        rw [take_flat ds k hlt, List.length_append, ← hd] at h1
        omega
      have HD : Hid (d = ds[k]'hlt) := hd
      have hwr := write_took ks sn hm hsn hsnw (w.heap.size + 1) (ds.take k).flatten d (hdb d (by rw [hd]; exact List.getElem_mem hlt)) hlen v wr hbt (by omega) (by have := HSZ.out; omega) hS' hK' HT.out
      have HW : Hid (Calls Tryz.prog 37 #[.pointer (some ⟨w.heap.size + 1, 0, none⟩), v] wr fun e w' => e = .returned (.int .i64 0) ∧ Took ks sn ((ds.take k).flatten ++ d) (w.heap.size + 1) w' ∧ Touch (w.heap.size + 1) wr w') := hwr
      clear hwr hv hd hby hbt hlen
      go_wp2_with (go_at_call 37; refine HW.out.mono ?_; rintro e w' ⟨rfl, ht', tc'⟩)
      go_roundw
      case rel =>
        refine ⟨k + 1, by go_num, by omega, ?_, tch.trans tc'⟩
        show Took _ _ _ _ _
        rw [take_flat ds k hlt, ← HD.out]
        exact ht'
      case measure => simp [intOf]; omega
    · have hlt' : ¬ (k : Int) < (ds.length : Int) := by omega
      have hkk : k = ds.length := by omega
      have HT2 : Hid (Took ks sn ds.flatten (w.heap.size + 1) wr) := by have := HT.out; rw [hkk, List.take_length] at this; exact this
      have hsum := sum_took ks sn hm hsn hsnw (w.heap.size + 1) ds.flatten hn wr (by have := HSZ.out; omega) hS' hK' HT2.out
      have HSm : Hid (Calls Tryz.prog 38 #[.pointer (some ⟨w.heap.size + 1, 0, none⟩)] wr fun e w' => e = .returned (.agg (bs (shaN ks sn ds.flatten))) ∧ Below wr.heap.size wr w') := hsum
      clear hsum HT hkk
      have sl := shaN_len ks sn ds.flatten
      have rowRr : Hid (wr.heap[w.heap.size]? = some (.cells (bs z32) 24 (0, 0))) := (tch.block _ (by have := HS0.out; omega) (by omega)).trans rowR.out
      go_wp2_with (first
        | (go_at_call 38; refine HSm.out.mono ?_; rintro e w' ⟨rfl, hb'⟩)
        | refine wpList_store_row rfl 24 _ _ rfl _ _ rfl rfl 24 _ (by exact (hb'.block _ (by have := HSZ.out; omega)).trans rowRr.out) (by rw [size28, bs_size, sl]) (by rw [bs_size, bs_size, sl]; rfl) (bs_one _) ?_)
      have hres : (w'.setRow w.heap.size (bs (shaN ks sn ds.flatten))).heap[w.heap.size]? = some (.cells (bs (shaN ks sn ds.flatten)) 24 (0, 0)) := setRow_heap _ _ _ _ _ _ ((hb'.block _ (by have := HSZ.out; omega)).trans rowRr.out)
      refine bodyPost_ret (v := .agg (bs (shaN ks sn ds.flatten))) (results_cell_row rfl _ _ w.heap.size 24 _ (0, 0) _ rfl hres Tryz.underlying24 rfl (by rw [size28, bs_size, sl])) rfl ⟨rfl, ?_⟩
      exact below_setRow ((bel0.trans (tch.below (by omega) (by have := HS0.out; omega))).trans (hb'.mono (by have := HSZ.out; omega))) (Nat.le_refl _) _
set_option maxRecDepth 100000 in
theorem Byl.shape {v : Value} {d : List Nat} {w : World} (h : Byl v d w) : ∃ o c, v = .slice o d.length c := by
  rcases h with ⟨h, h2⟩ | ⟨b, off, cap, h1, _⟩
  · exact ⟨none, 0, by rw [h, h2]; rfl⟩
  · exact ⟨_, _, h1⟩
set_option maxRecDepth 100000 in
theorem one_lt {n : Nat} (h : 6 < n) (k : Nat) : 6 < n + k := by omega
set_option maxRecDepth 100000 in
set_option maxHeartbeats 400000 in
/-- Of. -/
theorem of_any (ks sn : List Nat) (hm : MixOK ks) (hsn : sn.length = 8) (hsnw : Wrd sn) (d : List Nat) (v : Value) (hn : d.length ≤ 1152921504606846976) (hdb : Byt d) (w : World) (hg1 : 5 < w.heap.size) (hv : Byl v d w)
    (hS : Hid (∀ j, j < 8 → w.cell? ⟨4, j, none⟩ = some (.int .u32 ((sn.getD j 0 : Nat) : Int)))) (hK : Hid (∀ j, j < 64 → w.cell? ⟨5, j, none⟩ = some (.int .u32 ((ks.getD j 0 : Nat) : Int)))) :
    Calls Tryz.prog 18 #[v] w fun e w' => e = .returned (.agg (bs (shaN ks sn d))) ∧ Below w.heap.size w w' := by
  obtain ⟨o, c, rfl⟩ := hv.shape
  have sl := shaN_len ks sn d
  go_enter Tryz.func18, Tryz.ntmps18
  go_wp2_with fail
  generalize hW : (w.alloc (Obj.cells _ 24)).alloc (Obj.cells #[Value.slice o d.length c] 22) = W0
  have rowR : Hid (W0.heap[w.heap.size]? = some (.cells (bs z32) 24 (0, 0))) := by rw [← hW]; exact heap_alloc2_old _ _ _
  have rowP : W0.heap[w.heap.size + 1]? = some (.cells #[Value.slice o d.length c] 22 (0, 0)) := by rw [← hW]; exact heap_alloc2_new _ _ _
  have bel0 : Below w.heap.size w W0 := by rw [← hW]; exact ((Below.refl _ w).alloc (Nat.le_refl _) _).alloc (by simp) _
  have hs0 : W0.heap.size = w.heap.size + 2 := by rw [← hW]; simp
  clear hW
  have hp := parts_any ks sn hm hsn hsnw [d] [.slice o d.length c] rfl (by simpa using hn) (fun x hx => by rw [List.mem_singleton.1 hx]; exact hdb) (w.heap.size + 1) 1 (by simp) (by decide) W0 (by omega) (by omega)
    (fun j h => by
      have hj : j = 0 := by simpa using h
      subst hj
      rw [cell_of_row W0 _ _ _ _ _ rowP]; rfl)
    (fun j h1 h2 => by
      have hj : j = 0 := by simpa using h1
      subst hj
      exact hv.keep (by omega) bel0.block)
    (fun j hj => (bel0.cell (by simp; omega)).trans (hS.out j hj)) (fun j hj => (bel0.cell (by simpa using hg1)).trans (hK.out j hj))
  rw [List.flatten_singleton] at hp
  refine hp.mono ?_
  rintro e w' ⟨rfl, hb'⟩
  go_wp2_with (refine wpList_store_row rfl 24 _ _ rfl _ _ rfl rfl 24 _ (by exact (hb'.block _ (by omega)).trans rowR.out) (by rw [size28, bs_size, sl]) (by rw [bs_size, bs_size, sl]; rfl) (bs_one _) ?_)
  have hres : (w'.setRow w.heap.size (bs (shaN ks sn d))).heap[w.heap.size]? = some (.cells (bs (shaN ks sn d)) 24 (0, 0)) := setRow_heap _ _ _ _ _ _ ((hb'.block _ (by omega)).trans rowR.out)
  refine bodyPost_ret (v := .agg (bs (shaN ks sn d))) (results_cell_row rfl _ _ w.heap.size 24 _ (0, 0) _ rfl hres Tryz.underlying24 rfl (by rw [size28, bs_size, sl])) rfl ⟨rfl, ?_⟩
  exact below_setRow (bel0.trans (hb'.mono (by omega))) (Nat.le_refl _) _
end Go.Proofs.YteajpimonenopaaGreatDoor.Sha
