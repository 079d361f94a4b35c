import Derived.Test.YtmfmmcfdcjhecaaDoorShTook
namespace Go.Proofs.YtmfmmcfdcjhecaaDoor.Sha
open Go.RowKit
/-- The sum of a message. -/
def shaN (ks sn m : List Nat) : List Nat := sumS (padN ks (absN ks sn m (m.length / 64)) (m.drop (64 * (m.length / 64))) m.length)
theorem shaN_len (ks sn m : List Nat) : (shaN ks sn m).length = 32 := sumS_len _
theorem padR_take {a b : List Nat} {u : Nat} (h : a.take u = b.take u) : padR a u = padR b u := by unfold padR; rw [h]
theorem padN_take (ks st a b : List Nat) (n : Nat) (h : a.take (n % 64) = b.take (n % 64)) : padN ks st a n = padN ks st b n := by
  unfold padN; rw [padR_take h]
theorem sum_took (ks sn : List Nat) (hm : MixOK ks) (hsn : sn.length = 8) (hsnw : Wrd sn) (g : Nat) (m : List Nat) (hn : m.length ≤ 1152921504606846976) (w : World) (hg1 : 5 < w.heap.size)
    (hS : Hid (∀ j, j < 8 → w.cell? ⟨4, j, none⟩ = some (.int .u32 ((sn.getD j 0 : Nat) : Int)))) (hK : Hid (∀ j, j < 64 → w.cell? ⟨5, j, none⟩ = some (.int .u32 ((ks.getD j 0 : Nat) : Int)))) (hT : Took ks sn m g w) :
    Calls Tryd.prog 21 #[.pointer (some ⟨g, 0, none⟩)] w fun e w' => e = .returned (.agg (bs (shaN ks sn m))) ∧ Below w.heap.size w w' := by
  obtain ⟨st, rest, hst, hrs, hsw, hrb, hh, hbeg, hrt⟩ := hT
  refine (sum_of ks sn hm hsn hsnw g st rest m.length hst hrs hn hsw hrb w hg1 hS hK hh).mono fun e w' ⟨he, hb⟩ => ⟨?_, hb⟩
  rw [he, hbeg, shaN, padN_take ks _ rest (m.drop (64 * (m.length / 64))) m.length]
  rw [hrt, List.take_of_length_le (by rw [List.length_drop]; omega)]
theorem took_zero (ks sn : List Nat) (g : Nat) (w : World) (h : w.heap[g]? = some (.cells hz 52 (0, 0))) : Took ks sn [] g w :=
  ⟨List.replicate 8 0, List.replicate 64 0, by simp, by simp, fun x hx => by rw [List.eq_of_mem_replicate hx]; decide, fun x hx => by rw [List.eq_of_mem_replicate hx]; decide, h, rfl, rfl⟩
theorem Took.keep {ks sn m : List Nat} {g : Nat} {w w' : World} (h : Took ks sn m g w) (hb : w'.heap[g]? = w.heap[g]?) : Took ks sn m g w' := by
  obtain ⟨st, rest, h1, h2, h3, h4, h5, h6⟩ := h
  exact ⟨st, rest, h1, h2, h3, h4, hb.trans h5, h6⟩
theorem Took.lt {ks sn m : List Nat} {g : Nat} {w : World} (h : Took ks sn m g w) : g < w.heap.size := by
  obtain ⟨st, rest, _, _, _, _, h5, _⟩ := h
  exact (Array.getElem?_eq_some_iff.1 h5).1
theorem Bts.keep {g : Nat} {v : Value} {d : List Nat} {w w' : World} (h : Bts g v d w) (hs : w.heap.size ≤ w'.heap.size) (hb : ∀ j, j < w.heap.size → j ≠ g → w'.heap[j]? = w.heap[j]?) : Bts g v d w' := by
  rcases h with h | ⟨b, off, cap, h1, h2, h3, h4, h5, h6⟩
  · exact .inl h
  · exact .inr ⟨b, off, cap, h1, h2, h3, h4, by omega, fun j hj => (World.cell?_of_block (w := w) (hb b h5 h4)).trans (h6 j hj)⟩
/-- A slice of bytes. -/
def Byl (v : Value) (d : List Nat) (w : World) : Prop :=
  (v = .slice none 0 0 ∧ d = []) ∨ ∃ b off cap, v = .slice (some ⟨b, off, none⟩) d.length cap ∧ d.length ≤ cap ∧ cap ≤ maxLen ∧ b < w.heap.size ∧ ∀ j, j < d.length → w.cell? ⟨b, off + j, none⟩ = some (.int .u8 ((d.getD j 0 : Nat) : Int))
theorem Byl.bts {v : Value} {d : List Nat} {w w' : World} (h : Byl v d w) (g : Nat) (hg : w.heap.size ≤ g) (hs : w.heap.size ≤ w'.heap.size) (hb : ∀ j, j < w.heap.size → w'.heap[j]? = w.heap[j]?) : Bts g v d w' := by
  rcases h with h | ⟨b, off, cap, h1, h2, h3, h5, h6⟩
  · exact .inl h
  · exact .inr ⟨b, off, cap, h1, h2, h3, by omega, by omega, fun j hj => (World.cell?_of_block (w := w) (hb b h5)).trans (h6 j hj)⟩
theorem Byl.keep {v : Value} {d : List Nat} {w w' : World} (h : Byl v d w) (hs : w.heap.size ≤ w'.heap.size) (hb : ∀ j, j < w.heap.size → w'.heap[j]? = w.heap[j]?) : Byl v d w' := by
  rcases h with h | ⟨b, off, cap, h1, h2, h3, h5, h6⟩
  · exact .inl h
  · exact .inr ⟨b, off, cap, h1, h2, h3, by omega, fun j hj => (World.cell?_of_block (w := w) (hb b h5)).trans (h6 j hj)⟩
theorem sum_flat_le (ds : List (List Nat)) (k : Nat) : (ds.take k).flatten.length ≤ ds.flatten.length := by
  conv => rhs; rw [← List.take_append_drop k ds, List.flatten_append, List.length_append]
  omega
theorem take_flat (ds : List (List Nat)) (k : Nat) (h : k < ds.length) : (ds.take (k + 1)).flatten = (ds.take k).flatten ++ ds[k] := by
  rw [List.take_succ_eq_append_getElem h, List.flatten_append]
  simp
attribute [local go_sem] zero43
theorem Byl.shape {v : Value} {d : List Nat} {w : World} (h : Byl v d w) : ∃ o c, v = .slice o d.length c := by
  rcases h with ⟨h, h2⟩ | ⟨b, off, cap, h1, _⟩
  · exact ⟨none, 0, by rw [h, h2]; rfl⟩
  · exact ⟨_, _, h1⟩
theorem one_lt {n : Nat} (h : 5 < n) (k : Nat) : 5 < n + k := by omega
end Go.Proofs.YtmfmmcfdcjhecaaDoor.Sha
