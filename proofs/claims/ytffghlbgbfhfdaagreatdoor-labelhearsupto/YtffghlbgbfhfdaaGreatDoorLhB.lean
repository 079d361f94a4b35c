/- The document's guess: the state. -/
import Derived.Test.YtffghlbgbfhfdaaGreatDoorLhM
import Derived.Test.YtffghlbgbfhfdaaGreatDoorLnL
import Derived.Test.YtffghlbgbfhfdaaGreatDoorRfJ
import Derived.Test.YtffghlbgbfhfdaaGreatDoorHrJ
namespace Go.Proofs.YtffghlbgbfhfdaaGreatDoor
open Go.RowKit Go.Shelf Go.Sort
theorem own_texts {W : World} {B : Nat} {v : Value} {P : List (List UInt8)} (h : W.ownsRow B 9 1 v P.length (ts P)) (hne : 0 < P.length) : ∃ gp cap, v = .slice (some ⟨gp, 0, none⟩) P.length cap ∧ P.length ≤ cap ∧ cap ≤ maxLen ∧ B ≤ gp ∧ gp < W.heap.size ∧ ∀ i x, P[i]? = some x → W.cell? ⟨gp, i, none⟩ = some (.string (ofL x)) := by
  rcases h.2 with ⟨-, h0⟩ | ⟨g, cap, cur, hv, hb, hg, hnc, hcm, hcs, htk⟩
  · omega
  · refine ⟨g, cap, hv, hnc, hcm, hb, (Array.getElem?_eq_some_iff.1 hg).1, fun i x hx => ?_⟩
    subst hv
    rw [h.cellAt i (by have := (List.getElem?_eq_some_iff.1 hx).1; omega)]
    simp [ts, hx]
def slTR (v : Value) (lo hi mx : Option Value) : Sem Value := Instr.slice 46 v lo hi mx
theorem toSlT (v : Value) (lo hi mx : Option Value) : Instr.slice 46 v lo hi mx = slTR v lo hi mx := rfl
theorem elemT : Tryz.prog.elem 46 = 9 := by kernel_rfl
theorem uT : Tryz.prog.underlying 46 = some (.slice (Tryz.prog.elem 46)) := by rw [elemT]; exact Tryz.underlying46
theorem run_cutT (w : World) (g n c h : Nat) (h1 : 1 ≤ h) (h2 : h ≤ c) (h3 : 1 < c) : (slTR (.slice (some ⟨g, 0, none⟩) n c) (some (.int .i64 1)) (some (.int .i64 (h : Int))) none).run Tryz.prog w = .ok (.slice (some ⟨g, 1, none⟩) (h - 1) (c - 1)) w := by
  have := run_slice_lh (P := Tryz.prog) w 46 (some ⟨g, 0, none⟩) n c uT .i64 .i64 (1 : Int) (h : Int) (by omega) (by omega) (by omega)
  unfold slTR
  rw [this, elemT, Tryz.sizeOf9]
  simp only [Result.andThen, sliced, Int.toNat_natCast]
  rw [if_neg (by simp; omega)]
  simp [Addr.add_mid]
theorem run_cutTh (w : World) (g n c h : Nat) (h2 : h ≤ c) : (slTR (.slice (some ⟨g, 1, none⟩) n c) none (some (.int .i64 (h : Int))) none).run Tryz.prog w = .ok (.slice (some ⟨g, 1, none⟩) h c) w := by
  have := run_slice_h (P := Tryz.prog) w 46 (some ⟨g, 1, none⟩) n c uT .i64 (h : Int) (by omega) (by omega)
  unfold slTR
  rw [this, elemT, Tryz.sizeOf9]
  simp only [Result.andThen, sliced, Int.toNat_natCast]
  by_cases h0 : c = 0
  · rw [if_pos h0]; simp
  · rw [if_neg h0]; simp [Addr.add_mid]
theorem fgA_set37 (k : Int) (v : Value) (sf : Bool) (o : ByteArray) (ix : Int) (sm : List Nat) (nm nm' : ByteArray) (hl : sm.length = 32) : (fgA k v sf o ix sm nm).setIfInBounds 37 (.string nm') = fgA k v sf o ix sm nm' := by
  unfold fgA
  have hz : (#[Value.int .i64 k, v, .bool sf, .string o, .int .i64 ix] ++ bs sm).size = 37 := by simp [bs_size, hl]
  rw [Array.setIfInBounds_append_right (by omega), hz]
  rfl
theorem fgA_c37 {k : Int} {v : Value} {sf : Bool} {o : ByteArray} {ix : Int} {sm : List Nat} {nm : ByteArray} {g : Nat} {W : World} (hl : sm.length = 32) (h : W.heap[g]? = some (.cells (fgA k v sf o ix sm nm) 26 (0, 0))) : W.cell? ⟨g, 37, none⟩ = some (.string nm) := by
  have hz : (#[Value.int .i64 k, v, .bool sf, .string o, .int .i64 ix] ++ bs sm).size = 37 := by simp [bs_size, hl]
  rw [cell_of_row _ _ _ _ _ _ h, fgA, Array.getElem?_append_right (by omega), hz]
  rfl
theorem run_copyF (w : World) (ty G g off cap : Nat) (k : Int) (v : Value) (sf : Bool) (o : ByteArray) (ix : Int) (s0 sm : List Nat) (nm : ByteArray) (h0 : s0.length = 32) (hl : sm.length = 32) (hG : w.heap[G]? = some (.cells (fgA k v sf o ix s0 nm) 26 (0, 0))) (hg : ∀ j, j < sm.length → w.cell? ⟨g, off + j, none⟩ = some (.int .u8 ((sm.getD j 0 : Nat) : Int))) :
    (copyR ty #[.slice (some ⟨G, 5, none⟩) 32 32, .slice (some ⟨g, off, none⟩) 32 cap]).run Tryz.prog w = .ok (.int .i64 32) (w.setRow G (fgA k v sf o ix sm nm)) := by
  have hlen : (bs sm).toList.length = 32 := by rw [Array.length_toList, bs_size, hl]
  have := run_copy_row (P := Tryz.prog) w 38 38 ty 5 G 5 32 32 ⟨g, off, none⟩ 32 cap (fgA k v sf o ix s0 nm) 26 (bs sm).toList Tryz.underlying38 size5 hG (by rw [hlen]; rfl) (fun j u hu => by
    have hj : j < 32 := by have := (List.getElem?_eq_some_iff.1 hu).1; omega
    rw [Addr.add_mid, hg j (by omega)]
    rw [Array.getElem?_toList, bs_get _ _ (by omega)] at hu
    exact hu) (by rw [hlen, fgA_size _ _ _ _ _ _ _ h0]; omega) (fun u hu => by
    rw [bs_toList] at hu
    obtain ⟨x, _, rfl⟩ := List.mem_map.1 hu
    rfl)
  unfold copyR
  rw [this, hlen]
  have e : ((fgA k v sf o ix s0 nm).toList.take 5 ++ (bs sm).toList ++ (fgA k v sf o ix s0 nm).toList.drop (5 + 32)).toArray = fgA k v sf o ix sm nm := by
    apply Array.ext'
    unfold fgA
    have hb : (bs s0).toList.length = 32 := by rw [Array.length_toList, bs_size, h0]
    simp only [Array.toList_append]
    rw [List.append_assoc, List.append_assoc, List.append_assoc]
    have e2 : List.drop (5 + 32) ([Value.int IntKind.i64 k, v, Value.bool sf, Value.string o, Value.int IntKind.i64 ix] ++ ((bs s0).toList ++ [Value.string nm])) = [Value.string nm] := by
      rw [← List.append_assoc]
      exact List.drop_left' (by rw [List.length_append, hb]; rfl)
    rw [e2]
    rfl
  rw [e]
  rfl
/-- Where guess stands. -/
structure Gst (k : Int) (v : Value) (sf : Bool) (o : ByteArray) (ix : Int) (sm : List Nat) (nm : ByteArray) (gp : Nat) (Q : List (List UInt8)) (w W : World) : Prop where
  res : W.heap[w.heap.size]? = some (.cells zF 26 (0, 0))
  row : W.heap[w.heap.size + 1]? = some (.cells (fgA k v sf o ix sm nm) 26 (0, 0))
  gl : w.heap.size + 1 < gp
  gh : gp < W.heap.size
  tq : ∀ (i : Nat) (x : List UInt8), Q[i]? = some x → W.cell? ⟨gp, 1 + i, none⟩ = some (.string (ofL x))
  bel : Below w.heap.size w W
section
variable {k : Int} {v : Value} {sf : Bool} {o : ByteArray} {ix : Int} {sm : List Nat} {nm : ByteArray} {gp : Nat} {Q : List (List UInt8)} {w W W' : World}
theorem Gst.below (h : Gst k v sf o ix sm nm gp Q w W) (b : Below W.heap.size W W') : Gst k v sf o ix sm nm gp Q w W' :=
  ⟨(b.block _ (Array.getElem?_eq_some_iff.1 h.res).1).trans h.res, (b.block _ (Array.getElem?_eq_some_iff.1 h.row).1).trans h.row, h.gl, Nat.lt_of_lt_of_le h.gh b.size, fun i x hx => (World.cell?_of_block (w := W) (b.block gp h.gh)).trans (h.tq i x hx), h.bel.trans (b.mono h.bel.size)⟩
theorem Gst.put (h : Gst k v sf o ix sm nm gp Q w W) (j : Nat) (u : Value) {k' : Int} {v' : Value} {sf' : Bool} {o' : ByteArray} {ix' : Int} {nm' : ByteArray} (hr : (W.setCell ⟨w.heap.size + 1, j, none⟩ u).heap[w.heap.size + 1]? = some (.cells (fgA k' v' sf' o' ix' sm nm') 26 (0, 0))) : Gst k' v' sf' o' ix' sm nm' gp Q w (W.setCell ⟨w.heap.size + 1, j, none⟩ u) := by
  have gl := h.gl
  refine ⟨(heap_setCell_other _ _ _ _ (by simp)).trans h.res, hr, h.gl, by simpa using h.gh, fun i x hx => (World.cell?_of_block (w := W) (heap_setCell_other _ _ _ _ (show gp ≠ w.heap.size + 1 by omega))).trans (h.tq i x hx), h.bel.setCell (by simp) _⟩
theorem Gst.setK (h : Gst k v sf o ix sm nm gp Q w W) (k' : Int) : Gst k' v sf o ix sm nm gp Q w (W.setCell ⟨w.heap.size + 1, 0, none⟩ (.int .i64 k')) := h.put _ _ ((set_fgA h.row).1 k')
theorem Gst.setV (h : Gst k v sf o ix sm nm gp Q w W) (v' : Value) : Gst k v' sf o ix sm nm gp Q w (W.setCell ⟨w.heap.size + 1, 1, none⟩ v') := h.put _ _ ((set_fgA h.row).2.1 v')
theorem Gst.setS (h : Gst k v sf o ix sm nm gp Q w W) (s' : Bool) : Gst k v s' o ix sm nm gp Q w (W.setCell ⟨w.heap.size + 1, 2, none⟩ (.bool s')) := h.put _ _ ((set_fgA h.row).2.2.1 s')
theorem Gst.setO (h : Gst k v sf o ix sm nm gp Q w W) (o' : ByteArray) : Gst k v sf o' ix sm nm gp Q w (W.setCell ⟨w.heap.size + 1, 3, none⟩ (.string o')) := h.put _ _ ((set_fgA h.row).2.2.2.1 o')
theorem Gst.setI (h : Gst k v sf o ix sm nm gp Q w W) (i' : Int) : Gst k v sf o i' sm nm gp Q w (W.setCell ⟨w.heap.size + 1, 4, none⟩ (.int .i64 i')) := h.put _ _ ((set_fgA h.row).2.2.2.2 i')
theorem Gst.sub (h : Gst k v sf o ix sm nm gp Q w W) {Q' : List (List UInt8)} (hq : ∀ (i : Nat) (x : List UInt8), Q'[i]? = some x → Q[i]? = some x) : Gst k v sf o ix sm nm gp Q' w W := ⟨h.res, h.row, h.gl, h.gh, fun i x hx => h.tq i x (hq i x hx), h.bel⟩
/-- What guess answers. -/
def GuP (s : ByteArray) (w : World) (e : Ending) (w' : World) : Prop :=
  ∃ (f : Fg) (ret : Bool), e = .returned (.tuple #[.agg (fing f), .bool ret]) ∧ w'.ownsRow w.heap.size 51 21 f.v f.L.length (cells f.L) ∧ f.L.length ≤ s.size + 1 ∧ Below w.heap.size w w' ∧ ∀ F : Fg, Ok F → sayT F = s → ret = true ∧ Sm f F
/-- The end: the finger is loaded and stored as the answer. -/
theorem gst_end (h : Gst k v sf o ix sm nm gp Q w W) (hl : sm.length = 32) (hv : ∃ q n c, v = .slice q n c) :
    (loadR 26 (.pointer (some ⟨w.heap.size + 1, 0, none⟩))).run Tryz.prog W = .ok (.agg (fgA k v sf o ix sm nm)) W ∧ (storeR 26 (.pointer (some ⟨w.heap.size, 0, none⟩)) (.agg (fgA k v sf o ix sm nm))).run Tryz.prog W = .ok () (W.setRow w.heap.size (fgA k v sf o ix sm nm)) ∧ Hid ((fgA k v sf o ix sm nm).size = 38 ∧ (W.setRow w.heap.size (fgA k v sf o ix sm nm)).heap[w.heap.size]? = some (.cells (fgA k v sf o ix sm nm) 26 (0, 0))) := by
  obtain ⟨q, n, c, rfl⟩ := hv
  have hz := fgA_size k (.slice q n c) sf o ix sm nm hl
  exact ⟨ldF W _ _ hz h.row, stF W _ zF _ zF_size hz (fgA_one _ _ _ _ _ _ _ _ _) h.res, hz, setRow_heap _ _ _ _ _ _ h.res⟩
theorem gst_fin (h : Gst k v sf o ix sm nm gp Q w W) (hl : sm.length = 32) (hb : Byt sm) (hk : 0 ≤ k ∧ k ≤ 4) (hi : -1000000 ≤ ix ∧ ix ≤ 1000000) {s : ByteArray} (hs : s.size ≤ 1099511627776) {A : List Lb} (own : W.ownsRow (w.heap.size + 2) 51 21 v A.length (cells A)) (hA : A.length ≤ s.size + 1) (hAb : ∀ x ∈ A, Byt x.h) {ret : Bool}
    (hex : ∀ F : Fg, Ok F → sayT F = s → ret = true ∧ k = F.k ∧ A = dd (srt F.L) ∧ sf = F.self ∧ o = F.out ∧ ix = F.ix ∧ sm = F.sm ∧ nm = F.nm) :
    GuP s w (.returned (.tuple #[.agg (fgA k v sf o ix sm nm), .bool ret])) (W.setRow w.heap.size (fgA k v sf o ix sm nm)) := by
  refine ⟨⟨k, v, A, sf, o, ix, sm, nm, hl, hb, by omega, by omega, by omega, hAb⟩, ret, rfl, own_down (own_row' own (by omega) _) (by omega), hA, below_setRow h.bel (Nat.le_refl _) _, fun F ok he => ?_⟩
  obtain ⟨h0, h1, h2, h3, h4, h5, h6, h7⟩ := hex F ok he
  exact ⟨h0, ⟨h1, h2, h3, h4, h5, h6, h7⟩⟩
end
theorem own_nil (W : World) (B : Nat) : W.ownsRow B 51 21 (.slice none 0 0) ([] : List Lb).length (cells []) := by rw [cells_nil]; exact World.ownsRow_nil _ _ _ _
theorem z32_b : Byt z32 := fun x hx => by rw [List.eq_of_mem_replicate hx]; decide
end Go.Proofs.YtffghlbgbfhfdaaGreatDoor
